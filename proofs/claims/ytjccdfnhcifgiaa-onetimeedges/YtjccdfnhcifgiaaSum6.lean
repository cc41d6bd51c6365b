/-
  The laws' own helper 'sum' of chapter 6: two little numbers of sixteen bytes, together, going round.
-/
import Derived.Test.YtjccdfnhcifgiaaAlive6
namespace Go.Proofs.Ytjccdfnhcifgiaa
open Go.RowKit
set_option linter.unusedVariables false
set_option maxRecDepth 100000
set_option linter.unusedSimpArgs false

/-- What is carried into byte k. -/
def carB (a b : List UInt8) : Nat → Int
  | 0 => 0
  | k + 1 => (carB a b k + ((a.getD k 0).toNat + (b.getD k 0).toNat)) / 256
theorem drop_le (l : List UInt8) (k : Nat) : leV (l.drop k) = ((l.getD k 0).toNat : Int) + 256 * leV (l.drop (k + 1)) := by
  by_cases h : k < l.length
  · rw [List.drop_eq_getElem_cons h, leV_cons, List.getD_eq_getElem?_getD, List.getElem?_eq_getElem h]; rfl
  · rw [List.drop_of_length_le (by omega), List.drop_of_length_le (by omega), List.getD_eq_getElem?_getD, List.getElem?_eq_none (by omega)]; rfl
theorem carB_div (a b : List UInt8) : ∀ k, (leV a + leV b) / 256 ^ k = carB a b k + leV (a.drop k) + leV (b.drop k)
  | 0 => by simp [carB]
  | k + 1 => by
    have h := carB_div a b k
    rw [Int.pow_succ, ← Int.ediv_ediv_of_nonneg (Int.pow_nonneg (by decide)), h, drop_le a k, drop_le b k, carB]
    omega
theorem carB_bd (a b : List UInt8) : ∀ k, 0 ≤ carB a b k ∧ carB a b k ≤ 1
  | 0 => ⟨Int.le_refl 0, show (0 : Int) ≤ 1 by decide⟩
  | k + 1 => by
    have h := carB_bd a b k
    have h1 := (a.getD k 0).toNat_lt
    have h2 := (b.getD k 0).toNat_lt
    simp only [carB]
    omega
theorem carB_byte (a b : List UInt8) (k : Nat) : ((byteOf (leV a + leV b) k).toNat : Int) = (carB a b k + ((a.getD k 0).toNat + (b.getD k 0).toNat)) % 256 := by
  rw [byteOf_val, Int.pow_mul, show (2 : Int) ^ 8 = 256 from by decide, carB_div a b k, drop_le a k, drop_le b k]
  omega

set_option maxHeartbeats 1000000 in
theorem law6_sum (a b : ByteArray) (w : World) (ha : a.size = 16) (hb : b.size = 16) :
    Calls Try.prog 15 #[.string a, .string b] w fun e w' => e = .returned (.string (put16S (leV a.data.toList + leV b.data.toList))) ∧ Below w.heap.size w w' := by
  obtain ⟨i0, hi, hz0, hz1, hz2⟩ := info_parts info8
  go_enter Try.func15, Try.ntmps15
  go_wp2_with (first | (at_make; refine wpList_make_full _ rfl _ _ 30 rfl w.heap.size 5 i0 (.int .u8 0) 1 Try.underlying30 hi hz0 hz1 .i64 .i64 16 16 16 rfl rfl rfl rfl (by rw [hz2]; omega) (by unfold maxLen; omega) (Nat.le_refl _) ?_))
  intro w1 hown hgrow
  rw [made8] at hown
  have hb1 : Below w.heap.size w w1 := (Below.refl _ w).grown hgrow (Nat.le_refl _) (by intro k hk; cases hk)
  clear hgrow
  go_wp2
  go_loopw [6, 7] (fun c i wr => ∃ (k : Nat) (l : List UInt8), k ≤ 16 ∧ i = .int .i64 k ∧ c = .int .i64 (carB a.data.toList b.data.toList k) ∧ l.length = 16 ∧ (∀ j, j < k → l[j]? = some (byteOf (leV a.data.toList + leV b.data.toList) j)) ∧ wr.ownsRow w.heap.size 5 1 (.slice (some ⟨w.heap.size, 0, none⟩) 16 16) 16 (cells8 l) ∧ Below w.heap.size w wr) (fun _ i _ => 16 - (intOf i).toNat)
  case atStart => exact ⟨0, List.replicate 16 0, Nat.zero_le _, rfl, rfl, by simp, by intro j hj; omega, hown, hb1⟩
  case round =>
    clear hown hb1
    obtain ⟨k, l, hk, rfl, rfl, hl, hbs, hown, hbel⟩ := hrel
    by_cases hlt : k < 16
    · have hcell := hown.cellAt k (by omega)
      have hfz := hown.frozenAt k
      rw [cells8_at l k (by omega)] at hcell
      have hka : k < a.size := by omega
      have hkb : k < b.size := by omega
      have ea : a[k] = a.data.toList.getD k 0 := by rw [List.getD_eq_getElem?_getD, List.getElem?_eq_getElem (by simpa using hka)]; rfl
      have eb : b[k] = b.data.toList.getD k 0 := by rw [List.getD_eq_getElem?_getD, List.getElem?_eq_getElem (by simpa using hkb)]; rfl
      have hby := carB_byte a.data.toList b.data.toList k
      rw [← ea, ← eb] at hby
      have HC : Hid ((carB a.data.toList b.data.toList k + ((a[k].toNat : Int) + (b[k].toNat : Int))) / 256 = carB a.data.toList b.data.toList (k + 1)) := by rw [ea, eb]; rfl
      have hcb := carB_bd a.data.toList b.data.toList k
      have hc0 := hcb.1
      have hc1 := hcb.2
      have h1 : (a[k].toNat : Int) < 256 := by have := a[k].toNat_lt; omega
      have h2 : (b[k].toNat : Int) < 256 := by have := b[k].toNat_lt; omega
      have h10 : (0 : Int) ≤ (a[k].toNat : Int) := by omega
      have h20 : (0 : Int) ≤ (b[k].toNat : Int) := by omega
      clear hcb ea eb
      generalize carB a.data.toList b.data.toList k = C at *
      go_wp2
      go_region
      go_wp2
      rw [← hby]
      have hs := own_store hown hbel (Nat.le_refl _) k (byteOf (leV a.data.toList + leV b.data.toList) k)
      exact ⟨⟨k + 1, l.set k (byteOf (leV a.data.toList + leV b.data.toList) k), by omega, by go_num, by rw [HC.out], by simpa using hl, set_fore hl hbs hlt, hs.1.drew, hs.2.drew⟩, by simp [intOf]; omega⟩
    · obtain rfl : k = 16 := by omega
      have hconv := own_string hown
      have HL : Hid (put16S (leV a.data.toList + leV b.data.toList) = str l) := by
        show _ = _
        unfold put16S put16
        rw [list_eq_map hl hbs]
      go_wp2
      go_ret
      exact ⟨by rw [HL.out]; rfl, hbel⟩

end Go.Proofs.Ytjccdfnhcifgiaa
