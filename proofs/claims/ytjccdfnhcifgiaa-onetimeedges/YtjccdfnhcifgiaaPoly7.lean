/-
  Plain facts: the number of a text's limbs; the least number; two words of a number.
-/
import Derived.Test.YtjccdfnhcifgiaaPoly6
namespace Go.Proofs.Ytjccdfnhcifgiaa
open Go.RowKit
set_option linter.unusedVariables false
set_option maxRecDepth 100000

theorem leV_nil : leV [] = 0 := rfl
theorem leV_cons (b : UInt8) (l : List UInt8) : leV (b :: l) = (b.toNat : Int) + 256 * leV l := rfl
theorem leV_append (a b : List UInt8) : leV (a ++ b) = leV a + 256 ^ a.length * leV b := by
  unfold leV
  rw [List.map_append, valD_append, List.length_map]
theorem leV_rev (l : List UInt8) : numOf l.reverse = leV l := by
  induction l with
  | nil => rfl
  | cons b l ih => rw [List.reverse_cons, numOf_snoc, ih, leV_cons]; omega
theorem leV_split (l : List UInt8) (n : Nat) : leV (l.take n) = leV l % 256 ^ n ∧ leV (l.drop n) = leV l / 256 ^ n := by
  by_cases h : n ≤ l.length
  · have e := leV_append (l.take n) (l.drop n)
    rw [List.take_append_drop, List.length_take, Nat.min_eq_left h] at e
    have b := leV_bd (l.take n)
    rw [List.length_take, Nat.min_eq_left h] at b
    have hp : (0 : Int) < 256 ^ n := Int.pow_pos (by decide)
    constructor
    · rw [e, Int.add_mul_emod_self_left, Int.emod_eq_of_lt b.1 b.2]
    · rw [e, Int.add_mul_ediv_left _ _ (by omega), Int.ediv_eq_zero_of_lt b.1 b.2, Int.zero_add]
  · rw [List.take_of_length_le (by omega), List.drop_of_length_le (by omega)]
    have b := leV_bd l
    have hp : (256 : Int) ^ l.length ≤ 256 ^ n := pow256_le _ _ (by omega)
    exact ⟨(Int.emod_eq_of_lt b.1 (by omega)).symm, (Int.ediv_eq_zero_of_lt b.1 (by omega)).symm⟩
theorem littleS_le (s : ByteArray) : littleS s = leV s.data.toList % 18446744073709551616 := by
  unfold littleS
  rw [leV_rev, (leV_split s.data.toList 8).1]
  rfl
theorem extract_list (b : ByteArray) (m : Nat) (h : m ≤ b.size) : (b.extract m b.size).data.toList = b.data.toList.drop m := by
  rw [ByteArray.data_extract, Array.toList_extract]
  rw [List.extract_eq_take_drop]
  exact List.take_of_length_le (by simp)
theorem little_from (b : ByteArray) (m : Nat) : littleS (b.extract (min m b.size) b.size) = leV b.data.toList / 256 ^ m % 18446744073709551616 := by
  rw [littleS_le, extract_list b _ (by omega), ← (leV_split b.data.toList m).2]
  congr 2
  by_cases h : m ≤ b.size
  · rw [Nat.min_eq_left h]
  · rw [List.drop_of_length_le (l := b.data.toList) (i := m) (by simp; omega), List.drop_of_length_le (by simp; omega)]

theorem nuL_five (b : ByteArray) : nuL b 5 = [limbN b 0, limbN b 1, limbN b 2, limbN b 3, limbN b 4] := rfl
theorem limb_of (b : ByteArray) : limbN b 0 = leV b.data.toList % 67108864 ∧ limbN b 1 = leV b.data.toList / 67108864 % 67108864 ∧ limbN b 2 = leV b.data.toList / 4503599627370496 % 67108864 ∧ limbN b 3 = leV b.data.toList / 302231454903657293676544 % 67108864 ∧ limbN b 4 = leV b.data.toList / 20282409603651670423947251286016 % 67108864 := by
  unfold limbN
  rw [little_from, little_from, little_from, little_from, little_from]
  generalize leV b.data.toList = v
  refine ⟨?_, ?_, ?_, ?_, ?_⟩
  · rw [show (256 : Int) ^ (3 * 0) = 1 from by decide, show (2 : Int) ^ (2 * 0) = 1 from by decide]; omega
  · rw [show (256 : Int) ^ (3 * 1) = 16777216 from by decide, show (2 : Int) ^ (2 * 1) = 4 from by decide]; omega
  · rw [show (256 : Int) ^ (3 * 2) = 281474976710656 from by decide, show (2 : Int) ^ (2 * 2) = 16 from by decide]; omega
  · rw [show (256 : Int) ^ (3 * 3) = 4722366482869645213696 from by decide, show (2 : Int) ^ (2 * 3) = 64 from by decide]; omega
  · rw [show (256 : Int) ^ (3 * 4) = 79228162514264337593543950336 from by decide, show (2 : Int) ^ (2 * 4) = 256 from by decide]; omega
theorem nuL_spec (b : ByteArray) (h : leV b.data.toList < 1361129467683753853853498429727072845824) : Fair (nuL b 5) ∧ valN (nuL b 5) = leV b.data.toList := by
  rw [nuL_five]
  obtain ⟨h0, h1, h2, h3, h4⟩ := limb_of b
  have hb := (leV_bd b.data.toList).1
  rw [h0, h1, h2, h3, h4]
  generalize leV b.data.toList = v at *
  clear h0 h1 h2 h3 h4
  refine ⟨⟨rfl, allB_five (by decide) (by omega) (by omega) (by omega) (by omega) (by omega)⟩, ?_⟩
  simp only [valN]
  omega

/-! The least number. -/
def fiveL : List Int := [5, 0, 0, 0, 0]
theorem fair_bd {y : List Int} (h : Fair y) : 0 ≤ valN y ∧ valN y < 1361129467683753853853498429727072845824 := by
  obtain ⟨hl, hb⟩ := h
  obtain ⟨a, b, c, d, e, rfl⟩ := five_of y hl
  have h0 := hb 0
  have h1 := hb 1
  have h2 := hb 2
  have h3 := hb 3
  have h4 := hb 4
  simp only [List.getD_cons_zero, List.getD_cons_succ] at h0 h1 h2 h3 h4
  simp only [valN]
  omega
/-- Carrying x + 5: 1 is carried out just if x reaches the modulus. -/
theorem more_five (y : List Int) (h : Fair y) : (carO (addL y fiveL 5) 5 = 0 ∧ valN y % p130 = valN y) ∨ (carO (addL y fiveL 5) 5 = 1 ∧ Fair (carL (addL y fiveL 5) 5) ∧ valN y % p130 = valN (carL (addL y fiveL 5) 5)) := by
  have hv := fair_bd h
  obtain ⟨hl, hb⟩ := h
  have hf : Fair (carL (addL y fiveL 5) 5) := ⟨by rw [carL_len, addL_len, hl], carL_lt _ (by rw [addL_len, hl])⟩
  have hfv := fair_bd hf
  obtain ⟨a, b, c, d, e, rfl⟩ := five_of y hl
  have h0 := hb 0
  have h1 := hb 1
  have h2 := hb 2
  have h3 := hb 3
  have h4 := hb 4
  simp only [List.getD_cons_zero, List.getD_cons_succ] at h0 h1 h2 h3 h4
  have e0 : addL [a, b, c, d, e] fiveL 5 = [a + 5, b + 0, c + 0, d + 0, e + 0] := rfl
  rw [e0] at hf hfv ⊢
  have e1 := carL_five (a + 5) (b + 0) (c + 0) (d + 0) (e + 0)
  have e2 := carO_five (a + 5) (b + 0) (c + 0) (d + 0) (e + 0)
  have hsum : valN (carL [a + 5, b + 0, c + 0, d + 0, e + 0] 5) + 1361129467683753853853498429727072845824 * carO [a + 5, b + 0, c + 0, d + 0, e + 0] 5 = valN [a, b, c, d, e] + 5 := by
    rw [e1, e2]
    simp only [valN]
    omega
  generalize carO [a + 5, b + 0, c + 0, d + 0, e + 0] 5 = O at *
  generalize valN (carL [a + 5, b + 0, c + 0, d + 0, e + 0] 5) = L at *
  generalize valN [a, b, c, d, e] = V at *
  have hO : O = 0 ∨ O = 1 := by omega
  have hr := rest_last V hv.1 hv.2
  rcases hO with rfl | rfl
  · left
    refine ⟨rfl, ?_⟩
    rw [hr, if_neg (by omega)]
  · right
    refine ⟨rfl, hf, ?_⟩
    rw [hr, if_pos (by omega)]
    omega

/-- Limbs taken over one by one. -/
def mixL (y z : List Int) : Nat → List Int
  | 0 => y
  | k + 1 => (mixL y z k).set k (z.getD k 0)
theorem mixL_len (y z : List Int) : ∀ k, (mixL y z k).length = y.length
  | 0 => rfl
  | k + 1 => by rw [mixL, List.length_set, mixL_len y z k]
theorem mixL_at (y z : List Int) (j : Nat) : ∀ k, k ≤ j → (mixL y z k).getD j 0 = y.getD j 0
  | 0, _ => rfl
  | k + 1, h => by
    rw [mixL, List.getD_eq_getElem?_getD, List.getElem?_set_ne (by omega), ← List.getD_eq_getElem?_getD]
    exact mixL_at y z j k (by omega)
theorem mixL_all (y z : List Int) (hy : y.length = 5) (hz : z.length = 5) : mixL y z 5 = z := by
  obtain ⟨a, b, c, d, e, rfl⟩ := five_of y hy
  obtain ⟨a', b', c', d', e', rfl⟩ := five_of z hz
  rfl
/-- What the mask takes. -/
theorem pick_none (X L : Int) (hX : 0 ≤ X ∧ X < 67108864) (hL : 0 ≤ L ∧ L < 67108864) : bits BinOp.andNot IntKind.u64 X 0 = X ∧ bits BinOp.and IntKind.u64 L 0 = 0 ∧ bits BinOp.or IntKind.u64 X 0 = X := by
  rw [u64_andNot _ _ hX.1 (by omega) (by decide) (by decide), u64_and _ _ hL.1 (by omega) (by decide) (by decide), u64_or _ _ hX.1 (by omega) (by decide) (by decide)]
  rw [show (18446744073709551615 - (0 : Int).toNat) = 2 ^ 64 - 1 from rfl, Nat.and_two_pow_sub_one_eq_mod]
  refine ⟨?_, ?_, ?_⟩
  · omega
  · simp
  · simp; omega
theorem pick_all (X L : Int) (hX : 0 ≤ X ∧ X < 67108864) (hL : 0 ≤ L ∧ L < 67108864) : bits BinOp.andNot IntKind.u64 X 18446744073709551615 = 0 ∧ bits BinOp.and IntKind.u64 L 18446744073709551615 = L ∧ bits BinOp.or IntKind.u64 0 L = L := by
  rw [u64_andNot _ _ hX.1 (by omega) (by decide) (by decide), u64_and _ _ hL.1 (by omega) (by decide) (by decide), u64_or _ _ (by decide) (by decide) hL.1 (by omega)]
  rw [show (18446744073709551615 : Int).toNat = 2 ^ 64 - 1 from rfl, Nat.and_two_pow_sub_one_eq_mod]
  refine ⟨?_, ?_, ?_⟩
  · simp
  · omega
  · simp; omega

end Go.Proofs.Ytjccdfnhcifgiaa
