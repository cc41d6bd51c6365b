/-
  Parts of this proof, one behind the other: Oct6.
-/
import Derived.Test.YtjemklgfenciaaaGreatBun8
import Derived.RegionTactic

/-
  The contracts of Xor, package octet's and the reference's.
-/
namespace Go.Proofs.YtjemklgfenciaaaGreat
open Go.RowKit
set_option linter.unusedVariables false
set_option maxRecDepth 100000

def xorL (a b : List UInt8) : List UInt8 := List.zipWith (fun x y => x ^^^ y) a b
def xorS (a b : ByteArray) : ByteArray := str (xorL a.data.toList b.data.toList)
def xorAt (a b : ByteArray) (j : Nat) : UInt8 := a.data.toList.getD j 0 ^^^ b.data.toList.getD j 0

theorem getD_at (a : ByteArray) (k : Nat) (h : k < a.size) : a.data.toList.getD k 0 = a[k] := by
  rw [List.getD_eq_getElem?_getD, List.getElem?_eq_getElem (by simpa using h)]; rfl

theorem xor_bits (a b : ByteArray) (k : Nat) (ha : k < a.size) (hb : k < b.size) : bits BinOp.xor IntKind.u8 (a[k].toNat : Int) (b[k].toNat : Int) = ((xorAt a b k).toNat : Int) := by
  have h1 := a[k].toNat_lt
  have h2 := b[k].toNat_lt
  rw [u8_xor_nat _ _ h1 h2]
  unfold xorAt
  rw [getD_at a k ha, getD_at b k hb, UInt8.toNat_xor]

theorem xorS_of {a b : ByteArray} {n : Nat} {l : List UInt8} (hna : n ≤ a.size) (hnb : n ≤ b.size) (hn : n = a.size ∨ n = b.size) (hl : l.length = n) (h : ∀ j, j < n → l[j]? = some (xorAt a b j)) : xorS a b = str l := by
  unfold xorS xorL
  congr 1
  apply List.ext_getElem?
  intro j
  rw [List.getElem?_zipWith]
  by_cases hj : j < n
  · rw [h j hj, List.getElem?_eq_getElem (show j < a.data.toList.length from by simpa using (by omega : j < a.size)), List.getElem?_eq_getElem (show j < b.data.toList.length from by simpa using (by omega : j < b.size))]
    unfold xorAt
    rw [getD_at a j (by omega), getD_at b j (by omega)]
    rfl
  · have ea : a.data.toList.length = a.size := by simp
    have eb : b.data.toList.length = b.size := by simp
    rw [List.getElem?_eq_none (l := l) (by omega)]
    rcases hn with e | e
    · rw [List.getElem?_eq_none (l := a.data.toList) (by omega)]
    · rw [List.getElem?_eq_none (l := b.data.toList) (by omega)]
      split <;> simp_all

end Go.Proofs.YtjemklgfenciaaaGreat
