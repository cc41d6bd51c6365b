/-
  Plain facts for the laws of chapter 6: bytes of numbers go back, clamping twice, keys of zeros and of one.
-/
import Derived.Test.YtjccdfnhcifgiaaSum6
namespace Go.Proofs.Ytjccdfnhcifgiaa
open Go.RowKit
set_option linter.unusedVariables false
set_option maxRecDepth 100000
set_option linter.unusedSimpArgs false

theorem str_list (l : List UInt8) : (str l).data.toList = l := by simp [str]
theorem str_app (a b : List UInt8) : str a ++ str b = str (a ++ b) := by simp [str, ByteArray.ext_iff]
theorem byteOf_of (l : List UInt8) (k : Nat) : byteOf (leV l) k = l.getD k 0 := by
  have h := byteOf_val (leV l) k
  rw [Int.pow_mul, show (2 : Int) ^ 8 = 256 from by decide, ← (leV_split l k).2, drop_le] at h
  have h2 := (l.getD k 0).toNat_lt
  apply UInt8.toNat_inj.1
  omega
theorem put16_back (l : List UInt8) (h : l.length = 16) : put16 (leV l) = l := by
  obtain ⟨a0, a1, a2, a3, a4, a5, a6, a7, a8, a9, b0, b1, b2, b3, b4, b5, rfl⟩ := list16 l h
  unfold put16
  have e : (List.range 16).map (byteOf (leV [a0, a1, a2, a3, a4, a5, a6, a7, a8, a9, b0, b1, b2, b3, b4, b5])) = (List.range 16).map (fun k => [a0, a1, a2, a3, a4, a5, a6, a7, a8, a9, b0, b1, b2, b3, b4, b5].getD k 0) := List.map_congr_left fun k _ => byteOf_of _ k
  rw [e]
  rfl
theorem put16S_back (s : ByteArray) (h : s.size = 16) : put16S (leV s.data.toList) = s := by
  unfold put16S
  rw [put16_back _ (by simpa using h), str_back]
theorem put16_mod (v : Int) : put16 v = put16 (v % 340282366920938463463374607431768211456) := by
  rw [← put16_of v, ← put16_of (v % 340282366920938463463374607431768211456)]
  rw [show v % 340282366920938463463374607431768211456 % 18446744073709551616 = v % 18446744073709551616 from by omega, show v % 340282366920938463463374607431768211456 / 18446744073709551616 % 18446744073709551616 = v / 18446744073709551616 % 18446744073709551616 from by omega]
theorem put16S_mod (u v : Int) (h : u % 340282366920938463463374607431768211456 = v % 340282366920938463463374607431768211456) : put16S u = put16S v := by
  unfold put16S
  rw [put16_mod u, put16_mod v, h]
theorem leV_eq_of (l m : List UInt8) (h : l.length = m.length) (hv : ∀ k, l.getD k 0 = m.getD k 0) : l = m := by
  apply List.ext_getElem?
  intro k
  by_cases hk : k < l.length
  · have := hv k
    rw [List.getD_eq_getElem?_getD, List.getD_eq_getElem?_getD, List.getElem?_eq_getElem hk, List.getElem?_eq_getElem (by omega)] at this
    rw [List.getElem?_eq_getElem hk, List.getElem?_eq_getElem (by omega)]
    simpa using this
  · rw [List.getElem?_eq_none (by omega), List.getElem?_eq_none (by omega)]
theorem mod_two (v p : Int) (hp : 0 < p) : v % p + p * (v / p % 256) = v % (p * 256) := by
  have h1 := Int.emod_add_mul_ediv v p
  have h2 := Int.emod_add_mul_ediv (v / p) 256
  have e : v = (v % p + p * (v / p % 256)) + (p * 256) * (v / p / 256) := by
    rw [Int.mul_assoc, Int.add_assoc, ← Int.mul_add, h2, h1]
  have b1 := Int.emod_nonneg v (Int.ne_of_gt hp)
  have b2 := Int.emod_lt_of_pos v hp
  have b3 : 0 ≤ p * (v / p % 256) := Int.mul_nonneg (Int.le_of_lt hp) (Int.emod_nonneg _ (by decide))
  have b4 : p * (v / p % 256) ≤ p * 255 := Int.mul_le_mul_of_nonneg_left (by omega) (Int.le_of_lt hp)
  have e2 : v % (p * 256) = (v % p + p * (v / p % 256)) % (p * 256) := by
    conv => lhs; rw [e]
    rw [Int.add_mul_emod_self_left]
  rw [e2]
  exact (Int.emod_eq_of_lt (a := v % p + p * (v / p % 256)) (b := p * 256) (by omega) (by omega)).symm
/-- A number below 2^128 is that of its sixteen bytes. -/
theorem digits_of (v : Int) (h0 : 0 ≤ v) : ∀ n : Nat, leV ((List.range n).map (byteOf v)) = v % 256 ^ n
  | 0 => by simp [leV, valD]
  | n + 1 => by
    rw [List.range_succ, List.map_append, leV_append, digits_of v h0 n, List.length_map, List.length_range]
    have e : leV (List.map (byteOf v) [n]) = v / 256 ^ n % 256 := by
      show (((byteOf v n).toNat : Int) + 256 * 0) = _
      rw [byteOf_val, Int.pow_mul, show (2 : Int) ^ 8 = 256 from by decide]
      omega
    rw [e, Int.pow_succ]
    have hp : (0 : Int) < 256 ^ n := Int.pow_pos (by decide)
    exact mod_two v (256 ^ n) hp

theorem leV_put16 (v : Int) (h0 : 0 ≤ v) : leV (put16 v) = v % 340282366920938463463374607431768211456 := by
  unfold put16
  rw [digits_of v h0 16]
  rfl

/-! The laws' sentences. -/
theorem tagV_nonneg (key b : List UInt8) : 0 ≤ tagV key b := by
  unfold tagV
  have h1 := (accTo_bd (leV (clampL key)) b ((b.length + 15) / 16)).1
  have h2 := (leV_bd (key.drop 16)).1
  omega
theorem clampL_app (a b : List UInt8) (h : a.length = 16) : clampL (a ++ b) = clampL a := by
  rw [← clampL_take (a ++ b), List.take_append_of_le_length (by omega), List.take_of_length_le (by omega)]
theorem drop_app (a b : List UInt8) (h : a.length = 16) : (a ++ b).drop 16 = b := by
  rw [← h, List.drop_left]
theorem clampAt_twice (j : Nat) (b : UInt8) : clampAt j (clampAt j b) = clampAt j b := by
  unfold clampAt
  split
  · rw [UInt8.and_assoc]; rfl
  · split
    · rw [UInt8.and_assoc]; rfl
    · rfl
theorem clampL_at (l : List UInt8) (j : Nat) (h : j < 16) : (clampL l).getD j 0 = clampAt j (l.getD j 0) := by
  unfold clampL
  rw [List.getD_eq_getElem?_getD, List.getElem?_map, List.getElem?_range h]
  rfl
theorem clampL_twice (l : List UInt8) : clampL (clampL l) = clampL l := by
  have e : ∀ m : List UInt8, clampL m = (List.range 16).map fun j => clampAt j (m.getD j 0) := fun _ => rfl
  rw [e (clampL l), e l]
  refine List.map_congr_left fun j hj => ?_
  have hj := List.mem_range.1 hj
  rw [← e l, clampL_at l j hj, clampAt_twice]
theorem accTo_zero (b : List UInt8) : ∀ k, accTo 0 b k = 0
  | 0 => rfl
  | k + 1 => by rw [accTo, Int.mul_zero]; rfl
/-- Under a key whose first half is zeros. -/
theorem tag_zeros (half b : ByteArray) (h : half.size = 16) : tagS (zeros 16 ++ half) b = half := by
  unfold tagS tagV zeros
  rw [← str_back half, str_app, str_list]
  rw [clampL_app _ _ (by simp), drop_app _ _ (by simp), show leV (clampL (List.replicate 16 0)) = 0 from by decide, accTo_zero, Int.zero_add]
  have := put16S_back half h
  rw [this, str_back]
/-- No bytes at all. -/
theorem tag_none (key : ByteArray) (h : key.size = 32) : tagS key ⟨#[]⟩ = key.extract 16 32 := by
  unfold tagS tagV
  have e : (key.extract 16 32).data.toList = key.data.toList.drop 16 := by
    have := extract_list key 16 (by omega)
    rwa [h] at this
  rw [← e]
  show put16S (0 + leV (key.extract 16 32).data.toList) = _
  rw [Int.zero_add]
  exact put16S_back _ (by simp; omega)
/-- Two second halves. -/
theorem tag_shift (r s t b : ByteArray) (hr : r.size = 16) (hs : s.size = 16) : put16S (leV (tagS (r ++ s) b).data.toList + leV t.data.toList) = put16S (accTo (leV (clampL r.data.toList)) b.data.toList ((b.size + 15) / 16) + leV s.data.toList + leV t.data.toList) := by
  have e : tagS (r ++ s) b = str (put16 (tagV (r ++ s).data.toList b.data.toList)) := rfl
  have ev : tagV (r ++ s).data.toList b.data.toList = accTo (leV (clampL r.data.toList)) b.data.toList ((b.size + 15) / 16) + leV s.data.toList := by
    unfold tagV
    have e2 : (r ++ s).data.toList = r.data.toList ++ s.data.toList := by simp
    rw [e2, clampL_app _ _ (by simpa using hr), drop_app _ _ (by simpa using hr)]
    simp
  have hn := tagV_nonneg (r ++ s).data.toList b.data.toList
  rw [e, str_list, leV_put16 _ hn, ev]
  exact put16S_mod _ _ (by omega)
/-- The clamped bits alone count. -/
theorem clamp_again (key : ByteArray) (h : key.size = 32) : clampS (clampS key ++ key.extract 16 32) = clampS key := by
  unfold clampS
  rw [show (str (clampL key.data.toList) ++ key.extract 16 32).data.toList = clampL key.data.toList ++ (key.extract 16 32).data.toList from by simp [str], clampL_app _ _ (clampL_len _), clampL_twice]
theorem tag_clamped (key b : ByteArray) (h : key.size = 32) : tagS (clampS key ++ key.extract 16 32) b = tagS key b := by
  unfold tagS tagV
  have e : (key.extract 16 32).data.toList = key.data.toList.drop 16 := by
    have := extract_list key 16 (by omega)
    rwa [h] at this
  have e2 : (clampS key ++ key.extract 16 32).data.toList = clampL key.data.toList ++ (key.extract 16 32).data.toList := by simp [clampS, str]
  rw [e2, clampL_app _ _ (clampL_len _), drop_app _ _ (clampL_len _), clampL_twice, e]
/-- Multiplied by one. -/
theorem tag_one (half b : ByteArray) (h : half.size = 16) (hb : b.size = 16) : tagS (⟨#[1]⟩ ++ zeros 15 ++ half) b = put16S (leV b.data.toList + leV half.data.toList) := by
  unfold tagS tagV
  have e : (⟨#[1]⟩ ++ zeros 15 ++ half : ByteArray).data.toList = (1 :: List.replicate 15 0) ++ half.data.toList := by simp [zeros, str]
  have hl : b.data.toList.length = 16 := by simpa using hb
  rw [e, clampL_app _ _ (by simp), drop_app _ _ (by simp), show leV (clampL (1 :: List.replicate 15 0)) = 1 from by decide, hl]
  rw [show (16 + 15) / 16 = 0 + 1 from rfl, accTo]
  rw [Nat.mul_zero, List.drop_zero, List.take_of_length_le (by omega), Int.mul_one, show accTo 1 b.data.toList 0 = 0 from rfl, Int.zero_add, leV_append, hl]
  have hv := leV_bd b.data.toList
  rw [hl] at hv
  rw [show leV [1] = 1 from rfl]
  rw [show (256 : Int) ^ 16 = 340282366920938463463374607431768211456 from by decide] at *
  refine put16S_mod _ _ ?_
  unfold p130
  omega

theorem bel_on {u v w : World} (h : Below u.heap.size u v) (k : Below v.heap.size v w) : Below u.heap.size u w := h.trans (k.mono h.size)

end Go.Proofs.Ytjccdfnhcifgiaa
