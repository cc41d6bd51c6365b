/-
  Parts of this proof, one behind the other: Alive6, Sum6, Str6, Box0, RefP.
-/
import Derived.Test.YtgeackoaghkgmaaBun22
import Derived.Test.YtgeackoaghkgmaaBun14
import Derived.Test.YtgeackoaghkgmaaBun8
import Derived.Test.YtgeackoaghkgmaaBun5
import Derived.Test.YtgeackoaghkgmaaBun17
import Derived.Test.YtgeackoaghkgmaaBun21

/-
  The laws' own helpers of chapter 6: the first call 'alive', which answers true (RFC 8439, 2.5.2), and 'sum'.
-/
namespace Go.Proofs.Ytgeackoaghkgmaa
open Go.RowKit
set_option linter.unusedVariables false
set_option maxRecDepth 100000
set_option linter.unusedSimpArgs false

set_option maxRecDepth 100000 in
theorem key6_told : unhexS ⟨#[56, 53, 100, 54, 98, 101, 55, 56, 53, 55, 53, 53, 54, 100, 51, 51, 55, 102, 52, 52, 53, 50, 102, 101, 52, 50, 100, 53, 48, 54, 97, 56, 48, 49, 48, 51, 56, 48, 56, 97, 102, 98, 48, 100, 98, 50, 102, 100, 52, 97, 98, 102, 102, 54, 97, 102, 52, 49, 52, 57, 102, 53, 49, 98]⟩ = ⟨#[133, 214, 190, 120, 87, 85, 109, 51, 127, 68, 82, 254, 66, 213, 6, 168, 1, 3, 128, 138, 251, 13, 178, 253, 74, 191, 246, 175, 65, 73, 245, 27]⟩ ∧ unhexOk ⟨#[56, 53, 100, 54, 98, 101, 55, 56, 53, 55, 53, 53, 54, 100, 51, 51, 55, 102, 52, 52, 53, 50, 102, 101, 52, 50, 100, 53, 48, 54, 97, 56, 48, 49, 48, 51, 56, 48, 56, 97, 102, 98, 48, 100, 98, 50, 102, 100, 52, 97, 98, 102, 102, 54, 97, 102, 52, 49, 52, 57, 102, 53, 49, 98]⟩ = true := by decide +kernel
set_option maxRecDepth 100000 in
theorem tag6_told : hexS (tagS ⟨#[133, 214, 190, 120, 87, 85, 109, 51, 127, 68, 82, 254, 66, 213, 6, 168, 1, 3, 128, 138, 251, 13, 178, 253, 74, 191, 246, 175, 65, 73, 245, 27]⟩ ⟨#[67, 114, 121, 112, 116, 111, 103, 114, 97, 112, 104, 105, 99, 32, 70, 111, 114, 117, 109, 32, 82, 101, 115, 101, 97, 114, 99, 104, 32, 71, 114, 111, 117, 112]⟩) = ⟨#[97, 56, 48, 54, 49, 100, 99, 49, 51, 48, 53, 49, 51, 54, 99, 54, 99, 50, 50, 98, 56, 98, 97, 102, 48, 99, 48, 49, 50, 55, 97, 57]⟩ := by decide +kernel

end Go.Proofs.Ytgeackoaghkgmaa

/-
  The laws' own helper 'sum' of chapter 6: two little numbers of sixteen bytes, together, going round.
-/
namespace Go.Proofs.Ytgeackoaghkgmaa
open Go.RowKit
set_option linter.unusedVariables false
set_option maxRecDepth 100000
set_option linter.unusedSimpArgs false

/-- What is carried into byte k. -/
def carB (a b : List UInt8) : Nat → Int
  | 0 => 0
  | k + 1 => (carB a b k + ((a.getD k 0).toNat + (b.getD k 0).toNat)) / 256
theorem drop_le (l : List UInt8) (k : Nat) : leV (l.drop k) = ((l.getD k 0).toNat : Int) + 256 * leV (l.drop (k + 1)) := by
  by_cases h : k < l.length
  · rw [List.drop_eq_getElem_cons h, leV_cons, List.getD_eq_getElem?_getD, List.getElem?_eq_getElem h]; rfl
  · rw [List.drop_of_length_le (by omega), List.drop_of_length_le (by omega), List.getD_eq_getElem?_getD, List.getElem?_eq_none (by omega)]; rfl
theorem carB_div (a b : List UInt8) : ∀ k, (leV a + leV b) / 256 ^ k = carB a b k + leV (a.drop k) + leV (b.drop k)
  | 0 => by simp [carB]
  | k + 1 => by
    have h := carB_div a b k
    rw [Int.pow_succ, ← Int.ediv_ediv_of_nonneg (Int.pow_nonneg (by decide)), h, drop_le a k, drop_le b k, carB]
    omega
theorem carB_bd (a b : List UInt8) : ∀ k, 0 ≤ carB a b k ∧ carB a b k ≤ 1
  | 0 => ⟨Int.le_refl 0, show (0 : Int) ≤ 1 by decide⟩
  | k + 1 => by
    have h := carB_bd a b k
    have h1 := (a.getD k 0).toNat_lt
    have h2 := (b.getD k 0).toNat_lt
    simp only [carB]
    omega
theorem carB_byte (a b : List UInt8) (k : Nat) : ((byteOf (leV a + leV b) k).toNat : Int) = (carB a b k + ((a.getD k 0).toNat + (b.getD k 0).toNat)) % 256 := by
  rw [byteOf_val, Int.pow_mul, show (2 : Int) ^ 8 = 256 from by decide, carB_div a b k, drop_le a k, drop_le b k]
  omega

end Go.Proofs.Ytgeackoaghkgmaa

/-
  Plain facts for the laws of chapter 6: bytes of numbers go back, clamping twice, keys of zeros and of one.
-/
namespace Go.Proofs.Ytgeackoaghkgmaa
open Go.RowKit
set_option linter.unusedVariables false
set_option maxRecDepth 100000
set_option linter.unusedSimpArgs false

theorem str_list6 (l : List UInt8) : (str l).data.toList = l := by simp [str]
theorem str_app (a b : List UInt8) : str a ++ str b = str (a ++ b) := by simp [str, ByteArray.ext_iff]
theorem byteOf_of (l : List UInt8) (k : Nat) : byteOf (leV l) k = l.getD k 0 := by
  have h := byteOf_val (leV l) k
  rw [Int.pow_mul, show (2 : Int) ^ 8 = 256 from by decide, ← (leV_split l k).2, drop_le] at h
  have h2 := (l.getD k 0).toNat_lt
  apply UInt8.toNat_inj.1
  omega
theorem put16_back (l : List UInt8) (h : l.length = 16) : put16 (leV l) = l := by
  obtain ⟨a0, a1, a2, a3, a4, a5, a6, a7, a8, a9, b0, b1, b2, b3, b4, b5, rfl⟩ := list16 l h
  unfold put16
  have e : (List.range 16).map (byteOf (leV [a0, a1, a2, a3, a4, a5, a6, a7, a8, a9, b0, b1, b2, b3, b4, b5])) = (List.range 16).map (fun k => [a0, a1, a2, a3, a4, a5, a6, a7, a8, a9, b0, b1, b2, b3, b4, b5].getD k 0) := List.map_congr_left fun k _ => byteOf_of _ k
  rw [e]
  rfl
theorem put16S_back (s : ByteArray) (h : s.size = 16) : put16S (leV s.data.toList) = s := by
  unfold put16S
  rw [put16_back _ (by simpa using h), str_back]
theorem put16_mod (v : Int) : put16 v = put16 (v % 340282366920938463463374607431768211456) := by
  rw [← put16_of v, ← put16_of (v % 340282366920938463463374607431768211456)]
  rw [show v % 340282366920938463463374607431768211456 % 18446744073709551616 = v % 18446744073709551616 from by omega, show v % 340282366920938463463374607431768211456 / 18446744073709551616 % 18446744073709551616 = v / 18446744073709551616 % 18446744073709551616 from by omega]
theorem put16S_mod (u v : Int) (h : u % 340282366920938463463374607431768211456 = v % 340282366920938463463374607431768211456) : put16S u = put16S v := by
  unfold put16S
  rw [put16_mod u, put16_mod v, h]
theorem leV_eq_of (l m : List UInt8) (h : l.length = m.length) (hv : ∀ k, l.getD k 0 = m.getD k 0) : l = m := by
  apply List.ext_getElem?
  intro k
  by_cases hk : k < l.length
  · have := hv k
    rw [List.getD_eq_getElem?_getD, List.getD_eq_getElem?_getD, List.getElem?_eq_getElem hk, List.getElem?_eq_getElem (by omega)] at this
    rw [List.getElem?_eq_getElem hk, List.getElem?_eq_getElem (by omega)]
    simpa using this
  · rw [List.getElem?_eq_none (by omega), List.getElem?_eq_none (by omega)]
theorem mod_two (v p : Int) (hp : 0 < p) : v % p + p * (v / p % 256) = v % (p * 256) := by
  have h1 := Int.emod_add_mul_ediv v p
  have h2 := Int.emod_add_mul_ediv (v / p) 256
  have e : v = (v % p + p * (v / p % 256)) + (p * 256) * (v / p / 256) := by
    rw [Int.mul_assoc, Int.add_assoc, ← Int.mul_add, h2, h1]
  have b1 := Int.emod_nonneg v (Int.ne_of_gt hp)
  have b2 := Int.emod_lt_of_pos v hp
  have b3 : 0 ≤ p * (v / p % 256) := Int.mul_nonneg (Int.le_of_lt hp) (Int.emod_nonneg _ (by decide))
  have b4 : p * (v / p % 256) ≤ p * 255 := Int.mul_le_mul_of_nonneg_left (by omega) (Int.le_of_lt hp)
  have e2 : v % (p * 256) = (v % p + p * (v / p % 256)) % (p * 256) := by
    conv => lhs; rw [e]
    rw [Int.add_mul_emod_self_left]
  rw [e2]
  exact (Int.emod_eq_of_lt (a := v % p + p * (v / p % 256)) (b := p * 256) (by omega) (by omega)).symm
/-- A number below 2^128 is that of its sixteen bytes. -/
theorem digits_of (v : Int) (h0 : 0 ≤ v) : ∀ n : Nat, leV ((List.range n).map (byteOf v)) = v % 256 ^ n
  | 0 => by simp [leV, valD]
  | n + 1 => by
    rw [List.range_succ, List.map_append, leV_append, digits_of v h0 n, List.length_map, List.length_range]
    have e : leV (List.map (byteOf v) [n]) = v / 256 ^ n % 256 := by
      show (((byteOf v n).toNat : Int) + 256 * 0) = _
      rw [byteOf_val, Int.pow_mul, show (2 : Int) ^ 8 = 256 from by decide]
      omega
    rw [e, Int.pow_succ]
    have hp : (0 : Int) < 256 ^ n := Int.pow_pos (by decide)
    exact mod_two v (256 ^ n) hp

theorem leV_put16 (v : Int) (h0 : 0 ≤ v) : leV (put16 v) = v % 340282366920938463463374607431768211456 := by
  unfold put16
  rw [digits_of v h0 16]
  rfl

/-! The laws' sentences. -/
theorem tagV_nonneg (key b : List UInt8) : 0 ≤ tagV key b := by
  unfold tagV
  have h1 := (accTo_bd (leV (clampL key)) b ((b.length + 15) / 16)).1
  have h2 := (leV_bd (key.drop 16)).1
  omega
theorem clampL_app (a b : List UInt8) (h : a.length = 16) : clampL (a ++ b) = clampL a := by
  rw [← clampL_take (a ++ b), List.take_append_of_le_length (by omega), List.take_of_length_le (by omega)]
theorem drop_app (a b : List UInt8) (h : a.length = 16) : (a ++ b).drop 16 = b := by
  rw [← h, List.drop_left]
theorem clampAt_twice (j : Nat) (b : UInt8) : clampAt j (clampAt j b) = clampAt j b := by
  unfold clampAt
  split
  · rw [UInt8.and_assoc]; rfl
  · split
    · rw [UInt8.and_assoc]; rfl
    · rfl
theorem clampL_at (l : List UInt8) (j : Nat) (h : j < 16) : (clampL l).getD j 0 = clampAt j (l.getD j 0) := by
  unfold clampL
  rw [List.getD_eq_getElem?_getD, List.getElem?_map, List.getElem?_range h]
  rfl
theorem clampL_twice (l : List UInt8) : clampL (clampL l) = clampL l := by
  have e : ∀ m : List UInt8, clampL m = (List.range 16).map fun j => clampAt j (m.getD j 0) := fun _ => rfl
  rw [e (clampL l), e l]
  refine List.map_congr_left fun j hj => ?_
  have hj := List.mem_range.1 hj
  rw [← e l, clampL_at l j hj, clampAt_twice]
theorem accTo_zero (b : List UInt8) : ∀ k, accTo 0 b k = 0
  | 0 => rfl
  | k + 1 => by rw [accTo, Int.mul_zero]; rfl
/-- Under a key whose first half is zeros. -/
theorem tag_zeros (half b : ByteArray) (h : half.size = 16) : tagS (zeros 16 ++ half) b = half := by
  unfold tagS tagV zeros
  rw [← str_back half, str_app, str_list6]
  rw [clampL_app _ _ (by simp), drop_app _ _ (by simp), show leV (clampL (List.replicate 16 0)) = 0 from by decide, accTo_zero, Int.zero_add]
  have := put16S_back half h
  rw [this, str_back]
/-- No bytes at all. -/
theorem tag_none (key : ByteArray) (h : key.size = 32) : tagS key ⟨#[]⟩ = key.extract 16 32 := by
  unfold tagS tagV
  have e : (key.extract 16 32).data.toList = key.data.toList.drop 16 := by
    have := extract_list key 16 (by omega)
    rwa [h] at this
  rw [← e]
  show put16S (0 + leV (key.extract 16 32).data.toList) = _
  rw [Int.zero_add]
  exact put16S_back _ (by simp; omega)
/-- Two second halves. -/
theorem tag_shift (r s t b : ByteArray) (hr : r.size = 16) (hs : s.size = 16) : put16S (leV (tagS (r ++ s) b).data.toList + leV t.data.toList) = put16S (accTo (leV (clampL r.data.toList)) b.data.toList ((b.size + 15) / 16) + leV s.data.toList + leV t.data.toList) := by
  have e : tagS (r ++ s) b = str (put16 (tagV (r ++ s).data.toList b.data.toList)) := rfl
  have ev : tagV (r ++ s).data.toList b.data.toList = accTo (leV (clampL r.data.toList)) b.data.toList ((b.size + 15) / 16) + leV s.data.toList := by
    unfold tagV
    have e2 : (r ++ s).data.toList = r.data.toList ++ s.data.toList := by simp
    rw [e2, clampL_app _ _ (by simpa using hr), drop_app _ _ (by simpa using hr)]
    simp
  have hn := tagV_nonneg (r ++ s).data.toList b.data.toList
  rw [e, str_list6, leV_put16 _ hn, ev]
  exact put16S_mod _ _ (by omega)
/-- The clamped bits alone count. -/
theorem clamp_again (key : ByteArray) (h : key.size = 32) : clampS (clampS key ++ key.extract 16 32) = clampS key := by
  unfold clampS
  rw [show (str (clampL key.data.toList) ++ key.extract 16 32).data.toList = clampL key.data.toList ++ (key.extract 16 32).data.toList from by simp [str], clampL_app _ _ (clampL_len _), clampL_twice]
theorem tag_clamped (key b : ByteArray) (h : key.size = 32) : tagS (clampS key ++ key.extract 16 32) b = tagS key b := by
  unfold tagS tagV
  have e : (key.extract 16 32).data.toList = key.data.toList.drop 16 := by
    have := extract_list key 16 (by omega)
    rwa [h] at this
  have e2 : (clampS key ++ key.extract 16 32).data.toList = clampL key.data.toList ++ (key.extract 16 32).data.toList := by simp [clampS, str]
  rw [e2, clampL_app _ _ (clampL_len _), drop_app _ _ (clampL_len _), clampL_twice, e]
/-- Multiplied by one. -/
theorem tag_one (half b : ByteArray) (h : half.size = 16) (hb : b.size = 16) : tagS (⟨#[1]⟩ ++ zeros 15 ++ half) b = put16S (leV b.data.toList + leV half.data.toList) := by
  unfold tagS tagV
  have e : (⟨#[1]⟩ ++ zeros 15 ++ half : ByteArray).data.toList = (1 :: List.replicate 15 0) ++ half.data.toList := by simp [zeros, str]
  have hl : b.data.toList.length = 16 := by simpa using hb
  rw [e, clampL_app _ _ (by simp), drop_app _ _ (by simp), show leV (clampL (1 :: List.replicate 15 0)) = 1 from by decide, hl]
  rw [show (16 + 15) / 16 = 0 + 1 from rfl, accTo]
  rw [Nat.mul_zero, List.drop_zero, List.take_of_length_le (by omega), Int.mul_one, show accTo 1 b.data.toList 0 = 0 from rfl, Int.zero_add, leV_append, hl]
  have hv := leV_bd b.data.toList
  rw [hl] at hv
  rw [show leV [1] = 1 from rfl]
  rw [show (256 : Int) ^ 16 = 340282366920938463463374607431768211456 from by decide] at *
  refine put16S_mod _ _ ?_
  unfold p130
  omega

theorem bel_on {u v w : World} (h : Below u.heap.size u v) (k : Below v.heap.size v w) : Below u.heap.size u w := h.trans (k.mono h.size)

end Go.Proofs.Ytgeackoaghkgmaa

/-
  Plain mathematics for chapter 7 (box): what is sealed, and what is opened, in plain words.
-/
namespace Go.Proofs.Ytgeackoaghkgmaa
open Go.RowKit
set_option linter.unusedVariables false
set_option maxRecDepth 100000
set_option linter.unusedSimpArgs false

/-- So many zeros are missing to a multiple of 16. -/
def fillZ (n : Nat) : Nat := (16 - n % 16) % 16
def fullL (l : List UInt8) : List UInt8 := l ++ List.replicate (fillZ l.length) 0
/-- The bytes of which the tag is told. -/
def boxL (more c : List UInt8) : List UInt8 := fullL more ++ fullL c ++ putLittle (more.length : Int) 8 ++ putLittle (c.length : Int) 8
def boxTag (key nonce more c : ByteArray) : ByteArray := tagS ((blockS key 0 nonce).extract 0 32) (str (boxL more.data.toList c.data.toList))
def sealS (key nonce plain more : ByteArray) : ByteArray := hideS key 1 nonce plain ++ boxTag key nonce more (hideS key 1 nonce plain)
theorem boxTag_size (key nonce more c : ByteArray) : (boxTag key nonce more c).size = 16 := tagS_size _ _
theorem sealS_size (key nonce plain more : ByteArray) : (sealS key nonce plain more).size = plain.size + 16 := by
  rw [sealS, ByteArray.size_append, hideS_size, boxTag_size]
theorem fillZ_lt (n : Nat) : fillZ n < 16 := by unfold fillZ; omega
theorem fullL_len (l : List UInt8) : (fullL l).length = l.length + fillZ l.length := by simp [fullL]
theorem putLittle8_len (v : Int) : (putLittle v 8).length = 8 := by
  unfold putLittle
  rw [if_pos (by decide), List.length_map, List.length_range]; rfl
theorem boxL_len (more c : List UInt8) : (boxL more c).length = more.length + fillZ more.length + (c.length + fillZ c.length) + 16 := by
  simp only [boxL, List.length_append, fullL_len, putLittle8_len]
theorem xorL_twice (l m : List UInt8) (h : l.length ≤ m.length) : xorL (xorL l m) m = l := by
  unfold xorL
  rw [zip_twice, List.take_of_length_le h]
/-- Hidden twice it is what it was. -/
theorem hide_twice (key : ByteArray) (c : Int) (nonce x : ByteArray) : hideS key c nonce (hideS key c nonce x) = x := by
  have hs := hideS_size key c nonce x
  have e : hideS key c nonce (hideS key c nonce x) = str (xorL (hideS key c nonce x).data.toList (keysTo key c nonce (hideS key c nonce x).size)) := rfl
  have e2 : (hideS key c nonce x).data.toList = xorL x.data.toList (keysTo key c nonce x.size) := by
    show (str (hideTo key c nonce x x.size)).data.toList = _
    rw [str_list6]; rfl
  rw [e, hs, e2, xorL_twice _ _ (by rw [keysTo_len]; simp; omega), str_back]

theorem cut_left (a b : ByteArray) : (a ++ b).extract 0 a.size = a := by
  rw [← str_back ((a ++ b).extract 0 a.size), extract_take]
  have : (a ++ b).data.toList = a.data.toList ++ b.data.toList := by simp
  rw [this, List.take_append_of_le_length (by simp), List.take_of_length_le (by simp), str_back]
theorem cut_right (a b : ByteArray) : (a ++ b).extract a.size (a ++ b).size = b := by
  rw [← str_back ((a ++ b).extract a.size (a ++ b).size), extract_list _ _ (by rw [ByteArray.size_append]; omega)]
  have : (a ++ b).data.toList = a.data.toList ++ b.data.toList := by simp
  rw [this, show a.size = a.data.toList.length from by simp, List.drop_left, str_back]
theorem cut_join (b : ByteArray) (m : Nat) (h : m ≤ b.size) : b.extract 0 m ++ b.extract m b.size = b := by
  rw [← str_back (b.extract 0 m), ← str_back (b.extract m b.size), extract_take, extract_list b m h, str_app, List.take_append_drop, str_back]

/-- Do the tags fit? -/
def openOk (key nonce b more : ByteArray) : Bool := decide (16 ≤ b.size) && decide (boxTag key nonce more (b.extract 0 (b.size - 16)) = b.extract (b.size - 16) b.size)
def openS (key nonce b more : ByteArray) : ByteArray := if openOk key nonce b more then hideS key 1 nonce (b.extract 0 (b.size - 16)) else ⟨#[]⟩
/-- The document's own way: sealed again it is what came, just if the tags fit. -/
theorem seal_again (key nonce b more : ByteArray) (h : 16 ≤ b.size) : sealS key nonce (hideS key 1 nonce (b.extract 0 (b.size - 16))) more = b ↔ boxTag key nonce more (b.extract 0 (b.size - 16)) = b.extract (b.size - 16) b.size := by
  unfold sealS
  rw [hide_twice]
  constructor
  · intro e
    have hz : (b.extract 0 (b.size - 16)).size = b.size - 16 := by simp
    have := cut_right (b.extract 0 (b.size - 16)) (boxTag key nonce more (b.extract 0 (b.size - 16)))
    rw [e, hz] at this
    exact this.symm
  · intro e
    rw [e]
    exact cut_join b (b.size - 16) (by omega)
/-- What was sealed is opened. -/
theorem open_sealed (key nonce plain more : ByteArray) : openOk key nonce (sealS key nonce plain more) more = true ∧ openS key nonce (sealS key nonce plain more) more = plain := by
  have hs := sealS_size key nonce plain more
  have hh := hideS_size key 1 nonce plain
  have hsz : (sealS key nonce plain more).size - 16 = (hideS key 1 nonce plain).size := by rw [hs, hh]; omega
  have e1 : (sealS key nonce plain more).extract 0 ((sealS key nonce plain more).size - 16) = hideS key 1 nonce plain := by rw [hsz]; exact cut_left _ _
  have e2 : (sealS key nonce plain more).extract ((sealS key nonce plain more).size - 16) (sealS key nonce plain more).size = boxTag key nonce more (hideS key 1 nonce plain) := by rw [hsz]; exact cut_right _ _
  have ok : openOk key nonce (sealS key nonce plain more) more = true := by
    unfold openOk
    rw [e1, e2, decide_eq_true rfl, decide_eq_true (by omega)]; rfl
  refine ⟨ok, ?_⟩
  unfold openS
  rw [ok, e1, if_pos rfl, hide_twice]

end Go.Proofs.Ytgeackoaghkgmaa

/-
  Plain facts for the reference's Tag.
-/
namespace Go.Proofs.Ytgeackoaghkgmaa
open Go.RowKit
set_option linter.unusedVariables false
set_option maxRecDepth 100000
set_option linter.unusedSimpArgs false

/-- A text's bytes as numbers. -/
def intsOf (s : ByteArray) : List Int := s.data.toList.map fun b => (b.toNat : Int)
theorem intsOf_len (s : ByteArray) : (intsOf s).length = s.size := by simp [intsOf]
theorem intsOf_val (s : ByteArray) : valD (intsOf s) = leV s.data.toList := rfl
theorem intsOf_at (s : ByteArray) (k : Nat) (h : k < s.size) : (intsOf s).getD k 0 = (s[k].toNat : Int) := by
  unfold intsOf
  rw [List.getD_eq_getElem?_getD, List.getElem?_map, List.getElem?_eq_getElem (by simpa using h)]
  rfl
theorem intsOf_bd (s : ByteArray) (k : Nat) : 0 ≤ (intsOf s).getD k 0 ∧ (intsOf s).getD k 0 < 256 := allD_getD (leD s.data.toList) k

/-- A product of two lists of digits, as far as (i, j). -/
def mulD (a r : List Int) (i j : Nat) : Int := valD (a.take i) * valD r + 256 ^ i * a.getD i 0 * valD (r.take j)
theorem mulD_zero (a r : List Int) : mulD a r 0 0 = 0 := by simp [mulD, valD]
theorem mulD_end (a r : List Int) (n : Nat) (h : a.length = n) : mulD a r n 0 = valD a * valD r := by
  unfold mulD
  rw [List.take_of_length_le (by omega)]
  simp [valD]
theorem mulD_next (a r : List Int) (i n : Nat) (hr : r.length = n) (hi : i < a.length) : mulD a r i n = mulD a r (i + 1) 0 := by
  unfold mulD
  rw [List.take_of_length_le (l := r) (by omega), valD_take a i hi, List.take_zero, Int.add_mul]
  simp [valD]
theorem mulD_step (a r : List Int) (i j : Nat) (hj : j < r.length) : mulD a r i (j + 1) = mulD a r i j + 256 ^ (i + j) * (a.getD i 0 * r.getD j 0) := by
  unfold mulD
  rw [valD_take r j hj, Int.mul_add, Int.add_assoc]
  congr 2
  rw [Int.pow_add]
  ac_rfl
theorem take_next (l : List Int) (p : List Int) (k : Nat) (hk : k < p.length) (hl : k < l.length) (V : Int) (h : valD l = V + valD (p.take k)) : valD (l.set k (l.getD k 0 + p.getD k 0)) = V + valD (p.take (k + 1)) := by
  rw [valD_add l k _ hl, h, valD_take p k hk, Int.add_assoc]
theorem prodI_bd (x y : Int) (hx : 0 ≤ x ∧ x < 8192) (hy : 0 ≤ y ∧ y < 256) : 0 ≤ x * y ∧ x * y < 2097152 := by
  refine ⟨Int.mul_nonneg hx.1 hy.1, ?_⟩
  have h1 : x * y ≤ 8191 * y := Int.mul_le_mul_of_nonneg_right (by omega) hy.1
  omega
/-- 2^130 is reached just if the seventeenth digit is 4 or more, or the eighteenth is not 0. -/
theorem reach130 (m : List Int) (hm : m.length = 18) (h : allD m) : (4 ≤ m.getD 16 0 ∨ 0 < m.getD 17 0) ↔ 1361129467683753853853498429727072845824 ≤ valD m := by
  have e1 := valD_take m 17 (by omega)
  have e2 := valD_take m 16 (by omega)
  rw [show m.take (17 + 1) = m from List.take_of_length_le (by omega)] at e1
  have hb := valD_bd (l := m.take 16) (fun d hd => h d (List.mem_of_mem_take hd))
  rw [List.length_take, Nat.min_eq_left (by omega)] at hb
  have h6 := allD_getD h 16
  have h7 := allD_getD h 17
  rw [show (256 : Int) ^ 16 = 340282366920938463463374607431768211456 from by decide] at *
  rw [show (256 : Int) ^ 17 = 87112285931760246646623899502532662132736 from by decide] at *
  rw [show 16 + 1 = 17 from rfl] at e2
  omega
/-- A digit is the number's byte. -/
theorem digit_byte (d : List Int) (h : allD d) (k : Nat) (hk : k < d.length) : ((byteOf (valD d) k).toNat : Int) = d.getD k 0 := by
  rw [byteOf_val, Int.pow_mul, show (2 : Int) ^ 8 = 256 from by decide]
  have e := valD_append (d.take k) (d.drop k)
  rw [List.take_append_drop, List.length_take, Nat.min_eq_left (by omega)] at e
  have hb := valD_bd (l := d.take k) (fun x hx => h x (List.mem_of_mem_take hx))
  rw [List.length_take, Nat.min_eq_left (by omega)] at hb
  have e2 : valD (d.drop k) = d.getD k 0 + 256 * valD (d.drop (k + 1)) := by
    rw [List.drop_eq_getElem_cons hk, valD, List.getD_eq_getElem?_getD, List.getElem?_eq_getElem hk]; rfl
  have hp : (0 : Int) < 256 ^ k := Int.pow_pos (by decide)
  have hq : valD d / 256 ^ k = valD (d.drop k) := by
    rw [e, Int.add_mul_ediv_left _ _ (by omega), Int.ediv_eq_zero_of_lt hb.1 hb.2, Int.zero_add]
  have hd := allD_getD h k
  rw [hq, e2]
  omega
/-- The last step, told in the lowest 128 bits. -/
theorem last_tag (v u s A : Int) (h0 : 0 ≤ v) (h1 : v < 1361129467683753853853498429727072845824) (hA : v % p130 = A) (hu : (u = v ∧ v + 5 < 1361129467683753853853498429727072845824) ∨ (u = v + 5 ∧ 1361129467683753853853498429727072845824 ≤ v + 5)) : put16S (u + s) = put16S (A + s) := by
  have hr := rest_last v h0 h1
  refine put16S_mod _ _ ?_
  rw [← hA, hr]
  rcases hu with ⟨rfl, h⟩ | ⟨rfl, h⟩
  · rw [if_neg (by omega)]
  · rw [if_pos h]
    omega
/-- One group more, in digits. -/
theorem acc_digits (r V v : Int) (b : List UInt8) (k : Nat) (hv : v % p130 = accTo r b k) (hV : V = (v + leV (((b.drop (16 * k)).take 16) ++ [1])) * r) : V % p130 = accTo r b (k + 1) := by
  rw [hV, accTo, ← hv]
  exact rest_mul _ _ _ _ (by rw [Int.emod_emod_of_dvd _ (Int.dvd_refl _)])

theorem keyHalf (key : ByteArray) (h : key.size = 32) : valD ((intsOf key).drop 16) = leV (key.data.toList.drop 16) ∧ ((intsOf key).drop 16).length = 16 ∧ 0 ≤ valD ((intsOf key).drop 16) ∧ valD ((intsOf key).drop 16) < 340282366920938463463374607431768211456 := by
  have e : (intsOf key).drop 16 = (key.data.toList.drop 16).map fun b => (b.toNat : Int) := by unfold intsOf; rw [List.map_drop]
  have hl : (key.data.toList.drop 16).length = 16 := by simp; omega
  have hb := leV_bd (key.data.toList.drop 16)
  rw [hl, show (256 : Int) ^ 16 = 340282366920938463463374607431768211456 from by decide] at hb
  have e2 : valD ((intsOf key).drop 16) = leV (key.data.toList.drop 16) := by rw [e]; rfl
  refine ⟨e2, by rw [e, List.length_map, hl], ?_, ?_⟩ <;> rw [e2]
  · exact hb.1
  · exact hb.2
theorem keyHalf_at (key : ByteArray) (h : key.size = 32) (q : Nat) (hq : q < 16) : ((intsOf key).drop 16).getD q 0 = (key[16 + q].toNat : Int) := by
  rw [← intsOf_at key (16 + q) (by omega), List.getD_eq_getElem?_getD, List.getElem?_drop, List.getD_eq_getElem?_getD]
theorem zerosI_at (n j : Nat) : (List.replicate n (0 : Int)).getD j 0 = 0 := by
  rw [List.getD_eq_getElem?_getD, List.getElem?_replicate]
  split <;> rfl
theorem fold_room (a r : Int) (ha0 : 0 ≤ a) (ha : a < 2722258935367507707706996859454145691648) (hr0 : 0 ≤ r) (hr : r < 340282366920938463463374607431768211456) : 0 ≤ a * r ∧ a * r < 256 ^ 34 := by
  refine ⟨Int.mul_nonneg ha0 hr0, ?_⟩
  have h1 : a * r ≤ 2722258935367507707706996859454145691648 * r := Int.mul_le_mul_of_nonneg_right (by omega) hr0
  have h2 : (256 : Int) ^ 34 = 7588550360256754183279148073529370729071901715047420004889892225542594864082845696 := by decide
  rw [h2]
  omega
theorem ints_clamp (ck : ByteArray) (h : ck.size = 16) : 0 ≤ valD (intsOf ck) ∧ valD (intsOf ck) < 340282366920938463463374607431768211456 := by
  have := valD_bd (leD ck.data.toList)
  rw [List.length_map, show ck.data.toList.length = 16 from by simpa using h, show (256 : Int) ^ 16 = 340282366920938463463374607431768211456 from by decide] at this
  exact this

end Go.Proofs.Ytgeackoaghkgmaa
