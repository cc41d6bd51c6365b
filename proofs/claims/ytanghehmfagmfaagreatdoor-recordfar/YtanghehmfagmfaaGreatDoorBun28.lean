/-
  Parts of this proof, one behind the other: Alive6, Sum6, Str6, Box0, RefP.
-/
import Derived.Test.YtanghehmfagmfaaGreatDoorBun25
import Derived.Test.YtanghehmfagmfaaGreatDoorBun11
import Derived.Test.YtanghehmfagmfaaGreatDoorBun10
import Derived.Test.YtanghehmfagmfaaGreatDoorBun4
import Derived.Test.YtanghehmfagmfaaGreatDoorBun27
import Derived.Test.YtanghehmfagmfaaGreatDoorBun24

/-
  The laws' own helpers of chapter 6: the first call 'alive', which answers true (RFC 8439, 2.5.2), and 'sum'.
-/
namespace Go.Proofs.YtanghehmfagmfaaGreatDoor
open Go.RowKit
set_option linter.unusedVariables false
set_option maxRecDepth 100000
set_option linter.unusedSimpArgs false

end Go.Proofs.YtanghehmfagmfaaGreatDoor

/-
  The laws' own helper 'sum' of chapter 6: two little numbers of sixteen bytes, together, going round.
-/
namespace Go.Proofs.YtanghehmfagmfaaGreatDoor
open Go.RowKit
set_option linter.unusedVariables false
set_option maxRecDepth 100000
set_option linter.unusedSimpArgs false

end Go.Proofs.YtanghehmfagmfaaGreatDoor

/-
  Plain facts for the laws of chapter 6: bytes of numbers go back, clamping twice, keys of zeros and of one.
-/
namespace Go.Proofs.YtanghehmfagmfaaGreatDoor
open Go.RowKit
set_option linter.unusedVariables false
set_option maxRecDepth 100000
set_option linter.unusedSimpArgs false

theorem str_list6 (l : List UInt8) : (str l).data.toList = l := by simp [str]
theorem str_app (a b : List UInt8) : str a ++ str b = str (a ++ b) := by simp [str, ByteArray.ext_iff]
theorem put16_mod (v : Int) : put16 v = put16 (v % 340282366920938463463374607431768211456) := by
  rw [← put16_of v, ← put16_of (v % 340282366920938463463374607431768211456)]
  rw [show v % 340282366920938463463374607431768211456 % 18446744073709551616 = v % 18446744073709551616 from by omega, show v % 340282366920938463463374607431768211456 / 18446744073709551616 % 18446744073709551616 = v / 18446744073709551616 % 18446744073709551616 from by omega]
theorem put16S_mod (u v : Int) (h : u % 340282366920938463463374607431768211456 = v % 340282366920938463463374607431768211456) : put16S u = put16S v := by
  unfold put16S
  rw [put16_mod u, put16_mod v, h]
end Go.Proofs.YtanghehmfagmfaaGreatDoor

/-
  Plain mathematics for chapter 7 (box): what is sealed, and what is opened, in plain words.
-/
namespace Go.Proofs.YtanghehmfagmfaaGreatDoor
open Go.RowKit
set_option linter.unusedVariables false
set_option maxRecDepth 100000
set_option linter.unusedSimpArgs false

/-- So many zeros are missing to a multiple of 16. -/
def fillZ (n : Nat) : Nat := (16 - n % 16) % 16
def fullL (l : List UInt8) : List UInt8 := l ++ List.replicate (fillZ l.length) 0
/-- The bytes of which the tag is told. -/
def boxL (more c : List UInt8) : List UInt8 := fullL more ++ fullL c ++ putLittle (more.length : Int) 8 ++ putLittle (c.length : Int) 8
def boxTag (key nonce more c : ByteArray) : ByteArray := tagS ((blockS key 0 nonce).extract 0 32) (str (boxL more.data.toList c.data.toList))
def sealS (key nonce plain more : ByteArray) : ByteArray := hideS key 1 nonce plain ++ boxTag key nonce more (hideS key 1 nonce plain)
theorem boxTag_size (key nonce more c : ByteArray) : (boxTag key nonce more c).size = 16 := tagS_size _ _
theorem sealS_size (key nonce plain more : ByteArray) : (sealS key nonce plain more).size = plain.size + 16 := by
  rw [sealS, ByteArray.size_append, hideS_size, boxTag_size]
theorem fillZ_lt (n : Nat) : fillZ n < 16 := by unfold fillZ; omega
theorem fullL_len (l : List UInt8) : (fullL l).length = l.length + fillZ l.length := by simp [fullL]
theorem putLittle8_len (v : Int) : (putLittle v 8).length = 8 := by
  unfold putLittle
  rw [if_pos (by decide), List.length_map, List.length_range]; rfl
theorem boxL_len (more c : List UInt8) : (boxL more c).length = more.length + fillZ more.length + (c.length + fillZ c.length) + 16 := by
  simp only [boxL, List.length_append, fullL_len, putLittle8_len]
theorem xorL_twice (l m : List UInt8) (h : l.length ≤ m.length) : xorL (xorL l m) m = l := by
  unfold xorL
  rw [zip_twice, List.take_of_length_le h]
/-- Hidden twice it is what it was. -/
theorem hide_twice (key : ByteArray) (c : Int) (nonce x : ByteArray) : hideS key c nonce (hideS key c nonce x) = x := by
  have hs := hideS_size key c nonce x
  have e : hideS key c nonce (hideS key c nonce x) = str (xorL (hideS key c nonce x).data.toList (keysTo key c nonce (hideS key c nonce x).size)) := rfl
  have e2 : (hideS key c nonce x).data.toList = xorL x.data.toList (keysTo key c nonce x.size) := by
    show (str (hideTo key c nonce x x.size)).data.toList = _
    rw [str_list6]; rfl
  rw [e, hs, e2, xorL_twice _ _ (by rw [keysTo_len]; simp; omega), str_back]

theorem cut_left (a b : ByteArray) : (a ++ b).extract 0 a.size = a := by
  rw [← str_back ((a ++ b).extract 0 a.size), extract_take]
  have : (a ++ b).data.toList = a.data.toList ++ b.data.toList := by simp
  rw [this, List.take_append_of_le_length (by simp), List.take_of_length_le (by simp), str_back]
theorem cut_right (a b : ByteArray) : (a ++ b).extract a.size (a ++ b).size = b := by
  rw [← str_back ((a ++ b).extract a.size (a ++ b).size), extract_list _ _ (by rw [ByteArray.size_append]; omega)]
  have : (a ++ b).data.toList = a.data.toList ++ b.data.toList := by simp
  rw [this, show a.size = a.data.toList.length from by simp, List.drop_left, str_back]
theorem cut_join (b : ByteArray) (m : Nat) (h : m ≤ b.size) : b.extract 0 m ++ b.extract m b.size = b := by
  rw [← str_back (b.extract 0 m), ← str_back (b.extract m b.size), extract_take, extract_list b m h, str_app, List.take_append_drop, str_back]

/-- Do the tags fit? -/
def openOk (key nonce b more : ByteArray) : Bool := decide (16 ≤ b.size) && decide (boxTag key nonce more (b.extract 0 (b.size - 16)) = b.extract (b.size - 16) b.size)
def openS (key nonce b more : ByteArray) : ByteArray := if openOk key nonce b more then hideS key 1 nonce (b.extract 0 (b.size - 16)) else ⟨#[]⟩
/-- The document's own way: sealed again it is what came, just if the tags fit. -/
theorem seal_again (key nonce b more : ByteArray) (h : 16 ≤ b.size) : sealS key nonce (hideS key 1 nonce (b.extract 0 (b.size - 16))) more = b ↔ boxTag key nonce more (b.extract 0 (b.size - 16)) = b.extract (b.size - 16) b.size := by
  unfold sealS
  rw [hide_twice]
  constructor
  · intro e
    have hz : (b.extract 0 (b.size - 16)).size = b.size - 16 := by simp
    have := cut_right (b.extract 0 (b.size - 16)) (boxTag key nonce more (b.extract 0 (b.size - 16)))
    rw [e, hz] at this
    exact this.symm
  · intro e
    rw [e]
    exact cut_join b (b.size - 16) (by omega)
/-- What was sealed is opened. -/
theorem open_sealed (key nonce plain more : ByteArray) : openOk key nonce (sealS key nonce plain more) more = true ∧ openS key nonce (sealS key nonce plain more) more = plain := by
  have hs := sealS_size key nonce plain more
  have hh := hideS_size key 1 nonce plain
  have hsz : (sealS key nonce plain more).size - 16 = (hideS key 1 nonce plain).size := by rw [hs, hh]; omega
  have e1 : (sealS key nonce plain more).extract 0 ((sealS key nonce plain more).size - 16) = hideS key 1 nonce plain := by rw [hsz]; exact cut_left _ _
  have e2 : (sealS key nonce plain more).extract ((sealS key nonce plain more).size - 16) (sealS key nonce plain more).size = boxTag key nonce more (hideS key 1 nonce plain) := by rw [hsz]; exact cut_right _ _
  have ok : openOk key nonce (sealS key nonce plain more) more = true := by
    unfold openOk
    rw [e1, e2, decide_eq_true rfl, decide_eq_true (by omega)]; rfl
  refine ⟨ok, ?_⟩
  unfold openS
  rw [ok, e1, if_pos rfl, hide_twice]

end Go.Proofs.YtanghehmfagmfaaGreatDoor

/-
  Plain facts for the reference's Tag.
-/
namespace Go.Proofs.YtanghehmfagmfaaGreatDoor
open Go.RowKit
set_option linter.unusedVariables false
set_option maxRecDepth 100000
set_option linter.unusedSimpArgs false

/-- A text's bytes as numbers. -/
def intsOf (s : ByteArray) : List Int := s.data.toList.map fun b => (b.toNat : Int)
theorem intsOf_len (s : ByteArray) : (intsOf s).length = s.size := by simp [intsOf]
theorem intsOf_val (s : ByteArray) : valD (intsOf s) = leV s.data.toList := rfl
theorem intsOf_at (s : ByteArray) (k : Nat) (h : k < s.size) : (intsOf s).getD k 0 = (s[k].toNat : Int) := by
  unfold intsOf
  rw [List.getD_eq_getElem?_getD, List.getElem?_map, List.getElem?_eq_getElem (by simpa using h)]
  rfl
theorem intsOf_bd (s : ByteArray) (k : Nat) : 0 ≤ (intsOf s).getD k 0 ∧ (intsOf s).getD k 0 < 256 := allD_getD (leD s.data.toList) k

/-- A product of two lists of digits, as far as (i, j). -/
def mulD (a r : List Int) (i j : Nat) : Int := valD (a.take i) * valD r + 256 ^ i * a.getD i 0 * valD (r.take j)
theorem mulD_zero (a r : List Int) : mulD a r 0 0 = 0 := by simp [mulD, valD]
theorem mulD_end (a r : List Int) (n : Nat) (h : a.length = n) : mulD a r n 0 = valD a * valD r := by
  unfold mulD
  rw [List.take_of_length_le (by omega)]
  simp [valD]
theorem mulD_next (a r : List Int) (i n : Nat) (hr : r.length = n) (hi : i < a.length) : mulD a r i n = mulD a r (i + 1) 0 := by
  unfold mulD
  rw [List.take_of_length_le (l := r) (by omega), valD_take a i hi, List.take_zero, Int.add_mul]
  simp [valD]
theorem mulD_step (a r : List Int) (i j : Nat) (hj : j < r.length) : mulD a r i (j + 1) = mulD a r i j + 256 ^ (i + j) * (a.getD i 0 * r.getD j 0) := by
  unfold mulD
  rw [valD_take r j hj, Int.mul_add, Int.add_assoc]
  congr 2
  rw [Int.pow_add]
  ac_rfl
theorem take_next (l : List Int) (p : List Int) (k : Nat) (hk : k < p.length) (hl : k < l.length) (V : Int) (h : valD l = V + valD (p.take k)) : valD (l.set k (l.getD k 0 + p.getD k 0)) = V + valD (p.take (k + 1)) := by
  rw [valD_add l k _ hl, h, valD_take p k hk, Int.add_assoc]
theorem prodI_bd (x y : Int) (hx : 0 ≤ x ∧ x < 8192) (hy : 0 ≤ y ∧ y < 256) : 0 ≤ x * y ∧ x * y < 2097152 := by
  refine ⟨Int.mul_nonneg hx.1 hy.1, ?_⟩
  have h1 : x * y ≤ 8191 * y := Int.mul_le_mul_of_nonneg_right (by omega) hy.1
  omega
/-- 2^130 is reached just if the seventeenth digit is 4 or more, or the eighteenth is not 0. -/
theorem reach130 (m : List Int) (hm : m.length = 18) (h : allD m) : (4 ≤ m.getD 16 0 ∨ 0 < m.getD 17 0) ↔ 1361129467683753853853498429727072845824 ≤ valD m := by
  have e1 := valD_take m 17 (by omega)
  have e2 := valD_take m 16 (by omega)
  rw [show m.take (17 + 1) = m from List.take_of_length_le (by omega)] at e1
  have hb := valD_bd (l := m.take 16) (fun d hd => h d (List.mem_of_mem_take hd))
  rw [List.length_take, Nat.min_eq_left (by omega)] at hb
  have h6 := allD_getD h 16
  have h7 := allD_getD h 17
  rw [show (256 : Int) ^ 16 = 340282366920938463463374607431768211456 from by decide] at *
  rw [show (256 : Int) ^ 17 = 87112285931760246646623899502532662132736 from by decide] at *
  rw [show 16 + 1 = 17 from rfl] at e2
  omega
/-- A digit is the number's byte. -/
theorem digit_byte (d : List Int) (h : allD d) (k : Nat) (hk : k < d.length) : ((byteOf (valD d) k).toNat : Int) = d.getD k 0 := by
  rw [byteOf_val, Int.pow_mul, show (2 : Int) ^ 8 = 256 from by decide]
  have e := valD_append (d.take k) (d.drop k)
  rw [List.take_append_drop, List.length_take, Nat.min_eq_left (by omega)] at e
  have hb := valD_bd (l := d.take k) (fun x hx => h x (List.mem_of_mem_take hx))
  rw [List.length_take, Nat.min_eq_left (by omega)] at hb
  have e2 : valD (d.drop k) = d.getD k 0 + 256 * valD (d.drop (k + 1)) := by
    rw [List.drop_eq_getElem_cons hk, valD, List.getD_eq_getElem?_getD, List.getElem?_eq_getElem hk]; rfl
  have hp : (0 : Int) < 256 ^ k := Int.pow_pos (by decide)
  have hq : valD d / 256 ^ k = valD (d.drop k) := by
    rw [e, Int.add_mul_ediv_left _ _ (by omega), Int.ediv_eq_zero_of_lt hb.1 hb.2, Int.zero_add]
  have hd := allD_getD h k
  rw [hq, e2]
  omega
/-- The last step, told in the lowest 128 bits. -/
theorem last_tag (v u s A : Int) (h0 : 0 ≤ v) (h1 : v < 1361129467683753853853498429727072845824) (hA : v % p130 = A) (hu : (u = v ∧ v + 5 < 1361129467683753853853498429727072845824) ∨ (u = v + 5 ∧ 1361129467683753853853498429727072845824 ≤ v + 5)) : put16S (u + s) = put16S (A + s) := by
  have hr := rest_last v h0 h1
  refine put16S_mod _ _ ?_
  rw [← hA, hr]
  rcases hu with ⟨rfl, h⟩ | ⟨rfl, h⟩
  · rw [if_neg (by omega)]
  · rw [if_pos h]
    omega
/-- One group more, in digits. -/
theorem acc_digits (r V v : Int) (b : List UInt8) (k : Nat) (hv : v % p130 = accTo r b k) (hV : V = (v + leV (((b.drop (16 * k)).take 16) ++ [1])) * r) : V % p130 = accTo r b (k + 1) := by
  rw [hV, accTo, ← hv]
  exact rest_mul _ _ _ _ (by rw [Int.emod_emod_of_dvd _ (Int.dvd_refl _)])

theorem keyHalf (key : ByteArray) (h : key.size = 32) : valD ((intsOf key).drop 16) = leV (key.data.toList.drop 16) ∧ ((intsOf key).drop 16).length = 16 ∧ 0 ≤ valD ((intsOf key).drop 16) ∧ valD ((intsOf key).drop 16) < 340282366920938463463374607431768211456 := by
  have e : (intsOf key).drop 16 = (key.data.toList.drop 16).map fun b => (b.toNat : Int) := by unfold intsOf; rw [List.map_drop]
  have hl : (key.data.toList.drop 16).length = 16 := by simp; omega
  have hb := leV_bd (key.data.toList.drop 16)
  rw [hl, show (256 : Int) ^ 16 = 340282366920938463463374607431768211456 from by decide] at hb
  have e2 : valD ((intsOf key).drop 16) = leV (key.data.toList.drop 16) := by rw [e]; rfl
  refine ⟨e2, by rw [e, List.length_map, hl], ?_, ?_⟩ <;> rw [e2]
  · exact hb.1
  · exact hb.2
theorem keyHalf_at (key : ByteArray) (h : key.size = 32) (q : Nat) (hq : q < 16) : ((intsOf key).drop 16).getD q 0 = (key[16 + q].toNat : Int) := by
  rw [← intsOf_at key (16 + q) (by omega), List.getD_eq_getElem?_getD, List.getElem?_drop, List.getD_eq_getElem?_getD]
theorem zerosI_at (n j : Nat) : (List.replicate n (0 : Int)).getD j 0 = 0 := by
  rw [List.getD_eq_getElem?_getD, List.getElem?_replicate]
  split <;> rfl
theorem fold_room (a r : Int) (ha0 : 0 ≤ a) (ha : a < 2722258935367507707706996859454145691648) (hr0 : 0 ≤ r) (hr : r < 340282366920938463463374607431768211456) : 0 ≤ a * r ∧ a * r < 256 ^ 34 := by
  refine ⟨Int.mul_nonneg ha0 hr0, ?_⟩
  have h1 : a * r ≤ 2722258935367507707706996859454145691648 * r := Int.mul_le_mul_of_nonneg_right (by omega) hr0
  have h2 : (256 : Int) ^ 34 = 7588550360256754183279148073529370729071901715047420004889892225542594864082845696 := by decide
  rw [h2]
  omega
theorem ints_clamp (ck : ByteArray) (h : ck.size = 16) : 0 ≤ valD (intsOf ck) ∧ valD (intsOf ck) < 340282366920938463463374607431768211456 := by
  have := valD_bd (leD ck.data.toList)
  rw [List.length_map, show ck.data.toList.length = 16 from by simpa using h, show (256 : Int) ^ 16 = 340282366920938463463374607431768211456 from by decide] at this
  exact this

end Go.Proofs.YtanghehmfagmfaaGreatDoor
