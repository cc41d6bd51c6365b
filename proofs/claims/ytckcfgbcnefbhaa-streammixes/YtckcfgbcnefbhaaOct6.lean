/-
  The contracts of Xor, package octet's and the reference's.
-/
import Derived.Test.YtckcfgbcnefbhaaOct2
import Derived.RegionTactic
namespace Go.Proofs.Ytckcfgbcnefbhaa
open Go.RowKit
set_option linter.unusedVariables false
set_option maxRecDepth 100000

def xorL (a b : List UInt8) : List UInt8 := List.zipWith (fun x y => x ^^^ y) a b
def xorS (a b : ByteArray) : ByteArray := str (xorL a.data.toList b.data.toList)
def xorAt (a b : ByteArray) (j : Nat) : UInt8 := a.data.toList.getD j 0 ^^^ b.data.toList.getD j 0

theorem getD_at (a : ByteArray) (k : Nat) (h : k < a.size) : a.data.toList.getD k 0 = a[k] := by
  rw [List.getD_eq_getElem?_getD, List.getElem?_eq_getElem (by simpa using h)]; rfl

theorem xor_bits (a b : ByteArray) (k : Nat) (ha : k < a.size) (hb : k < b.size) : bits BinOp.xor IntKind.u8 (a[k].toNat : Int) (b[k].toNat : Int) = ((xorAt a b k).toNat : Int) := by
  have h1 := a[k].toNat_lt
  have h2 := b[k].toNat_lt
  rw [u8_xor_nat _ _ h1 h2]
  unfold xorAt
  rw [getD_at a k ha, getD_at b k hb, UInt8.toNat_xor]

theorem xorS_of {a b : ByteArray} {n : Nat} {l : List UInt8} (hna : n ≤ a.size) (hnb : n ≤ b.size) (hn : n = a.size ∨ n = b.size) (hl : l.length = n) (h : ∀ j, j < n → l[j]? = some (xorAt a b j)) : xorS a b = str l := by
  unfold xorS xorL
  congr 1
  apply List.ext_getElem?
  intro j
  rw [List.getElem?_zipWith]
  by_cases hj : j < n
  · rw [h j hj, List.getElem?_eq_getElem (show j < a.data.toList.length from by simpa using (by omega : j < a.size)), List.getElem?_eq_getElem (show j < b.data.toList.length from by simpa using (by omega : j < b.size))]
    unfold xorAt
    rw [getD_at a j (by omega), getD_at b j (by omega)]
    rfl
  · have ea : a.data.toList.length = a.size := by simp
    have eb : b.data.toList.length = b.size := by simp
    rw [List.getElem?_eq_none (l := l) (by omega)]
    rcases hn with e | e
    · rw [List.getElem?_eq_none (l := a.data.toList) (by omega)]
    · rw [List.getElem?_eq_none (l := b.data.toList) (by omega)]
      split <;> simp_all

set_option maxHeartbeats 400000 in
theorem octet_xor (a b : ByteArray) (w : World) (ha : a.size ≤ 140737488355328) (hb : b.size ≤ 140737488355328) :
    Calls Try.prog 28 #[.string a, .string b] w fun e w' => e = .returned (.string (xorS a b)) ∧ Below w.heap.size w w' := by
  obtain ⟨i0, hi, hz0, hz1, hz2⟩ := info_parts info8
  obtain ⟨n, hna, hnb, hn⟩ : ∃ n : Nat, n ≤ a.size ∧ n ≤ b.size ∧ (n = a.size ∨ n = b.size) := ⟨min a.size b.size, by omega, by omega, by omega⟩
  go_enter Try.func28, Try.ntmps28
  go_wp2_with (first | (at_make; refine wpList_make_full _ rfl _ _ 33 rfl w.heap.size 5 i0 (.int .u8 0) 1 Try.underlying33 hi hz0 hz1 .i64 .i64 _ _ n rfl rfl (by omega) (by omega) (by rw [hz2]; omega) (by unfold maxLen; omega) (Nat.le_refl _) ?_))
  all_goals
    intro w1 hown hgrow
    rw [made8] at hown
    have hb1 : Below w.heap.size w w1 := (Below.refl _ w).grown hgrow (Nat.le_refl _) (by intro k hk; cases hk)
    clear hgrow
    go_wp2
    go_loopw [15] (fun i wr => ∃ (k : Nat) (l : List UInt8), k ≤ n ∧ i = .int .i64 k ∧ l.length = n ∧ (∀ j, j < k → l[j]? = some (xorAt a b j)) ∧ wr.ownsRow w.heap.size 5 1 (.slice (some ⟨w.heap.size, 0, none⟩) n n) n (cells8 l) ∧ Below w.heap.size w wr) (fun i _ => n - (intOf i).toNat)
    case atStart => exact ⟨0, List.replicate n 0, Nat.zero_le _, rfl, by simp, by intro j hj; omega, hown, hb1⟩
    case round =>
      clear hown hb1
      obtain ⟨k, l, hk, rfl, hl, hbs, hown, hbel⟩ := hrel
      by_cases hlt : k < n
      · have hcell := hown.cellAt k (by omega)
        have hfz := hown.frozenAt k
        rw [cells8_at l k (by omega)] at hcell
        have hka : k < a.size := by omega
        have hkb : k < b.size := by omega
        have hx := xor_bits a b k hka hkb
        go_wp2
        go_region
        go_wp2
        go_roundw
        case rel =>
          have hs := own_store hown hbel (Nat.le_refl _) k (xorAt a b k)
          exact ⟨k + 1, l.set k (xorAt a b k), by omega, by go_num, by simpa using hl, set_fore hl hbs hlt, hs.1.drew, hs.2.drew⟩
        case measure => simp [intOf]; omega
      · have hkn : k = n := by omega
        subst hkn
        have hconv := own_string hown
        go_wp2
        go_ret
        exact ⟨ret_str (xorS_of hna hnb hn hl hbs).symm, hbel⟩

set_option maxHeartbeats 400000 in
theorem ref_xor (a b : ByteArray) (w : World) (ha : a.size ≤ 140737488355328) (hb : b.size ≤ 140737488355328) :
    Calls Try.prog 17 #[.string a, .string b] w fun e w' => e = .returned (.string (xorS a b)) ∧ Below w.heap.size w w' := by
  obtain ⟨i0, hi, hz0, hz1, hz2⟩ := info_parts info8
  obtain ⟨n, hna, hnb, hn⟩ : ∃ n : Nat, n ≤ a.size ∧ n ≤ b.size ∧ (n = a.size ∨ n = b.size) := ⟨min a.size b.size, by omega, by omega, by omega⟩
  go_enter Try.func17, Try.ntmps17
  go_wp2_with (first | (at_make; refine wpList_make_full _ rfl _ _ 33 rfl w.heap.size 5 i0 (.int .u8 0) 1 Try.underlying33 hi hz0 hz1 .i64 .i64 _ _ n rfl rfl (by omega) (by omega) (by rw [hz2]; omega) (by unfold maxLen; omega) (Nat.le_refl _) ?_))
  all_goals
    intro w1 hown hgrow
    rw [made8] at hown
    have hb1 : Below w.heap.size w w1 := (Below.refl _ w).grown hgrow (Nat.le_refl _) (by intro k hk; cases hk)
    clear hgrow
    go_wp2
    go_loopw [7] (fun i wr => ∃ (k : Nat) (l : List UInt8), k ≤ n ∧ i = .int .i64 k ∧ l.length = n ∧ (∀ j, j < k → l[j]? = some (xorAt a b j)) ∧ wr.ownsRow w.heap.size 5 1 (.slice (some ⟨w.heap.size, 0, none⟩) n n) n (cells8 l) ∧ Below w.heap.size w wr) (fun i _ => n - (intOf i).toNat)
    case atStart => exact ⟨0, List.replicate n 0, Nat.zero_le _, rfl, by simp, by intro j hj; omega, hown, hb1⟩
    case round =>
      clear hown hb1
      obtain ⟨k, l, hk, rfl, hl, hbs, hown, hbel⟩ := hrel
      by_cases hlt : k < n
      · have hcell := hown.cellAt k (by omega)
        have hfz := hown.frozenAt k
        rw [cells8_at l k (by omega)] at hcell
        have hka : k < a.size := by omega
        have hkb : k < b.size := by omega
        have hx := xor_bits a b k hka hkb
        go_wp2
        go_region
        go_wp2
        go_roundw
        case rel =>
          have hs := own_store hown hbel (Nat.le_refl _) k (xorAt a b k)
          exact ⟨k + 1, l.set k (xorAt a b k), by omega, by go_num, by simpa using hl, set_fore hl hbs hlt, hs.1.drew, hs.2.drew⟩
        case measure => simp [intOf]; omega
      · have hkn : k = n := by omega
        subst hkn
        have hconv := own_string hown
        go_wp2
        go_ret
        exact ⟨ret_str (xorS_of hna hnb hn hl hbs).symm, hbel⟩

end Go.Proofs.Ytckcfgbcnefbhaa
