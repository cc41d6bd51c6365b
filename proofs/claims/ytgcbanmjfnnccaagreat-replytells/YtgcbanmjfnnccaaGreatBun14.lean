/-
  Parts of this proof, one behind the other: Com1.
-/
import Derived.Test.YtgcbanmjfnnccaaGreatBun7
import Derived.Test.YtgcbanmjfnnccaaGreatBun11

/-
  Plain mathematics for chapter 10: replies as bytes.
-/
namespace Go.Proofs.YtgcbanmjfnnccaaGreat
open Go.RowKit
set_option linter.unusedVariables false
set_option maxRecDepth 100000
set_option linter.unusedSimpArgs false

structure Rep where
  errno : Int
  value : ByteArray
  num : Int
  ver : Int
  keys : List ByteArray
def Rep.zero : Rep := ⟨0, ⟨#[]⟩, 0, 0, []⟩
/-- A reply whose keys lie at kv. -/
def Rep.v (r : Rep) (kv : Value) : Value := .agg #[.int .i64 r.errno, .string r.value, .int .i64 r.num, .int .i64 r.ver, kv]
def Rep.Fits (r : Rep) : Prop := (-9223372036854775808 ≤ r.errno ∧ r.errno ≤ 9223372036854775807) ∧ r.value.size ≤ 1000000 ∧ (-9223372036854775808 ≤ r.num ∧ r.num ≤ 9223372036854775807) ∧ (-9223372036854775808 ≤ r.ver ∧ r.ver ≤ 9223372036854775807) ∧ r.keys.length ≤ 1000 ∧ ∀ k ∈ r.keys, k.size ≤ maxLen
abbrev Rep.Head (r : Rep) : Prop := (0 ≤ r.errno ∧ r.errno ≤ 15) ∧ (-1000000000000 ≤ r.num ∧ r.num ≤ 1000000000000) ∧ (0 ≤ r.ver ∧ r.ver ≤ 1000000000000) ∧ r.value.size ≤ 500 ∧ r.keys.length ≤ 40
abbrev Rep.Ok (r : Rep) : Prop := r.Head ∧ ∀ k ∈ r.keys, k.size ≤ 60
def Rep.ok (r : Rep) : Bool := decide r.Ok
def keysL : List ByteArray → List UInt8
  | [] => []
  | k :: l => byteOf (k.size : Int) 0 :: (k.data.toList ++ keysL l)
def Rep.head (r : Rep) : List UInt8 := byteOf r.errno 0 :: (putBig (r.num + 1000000000000) 8 ++ (putBig r.ver 8 ++ (putBig (r.value.size : Int) 2 ++ (r.value.data.toList ++ [byteOf (r.keys.length : Int) 0]))))
def Rep.bytes (r : Rep) : List UInt8 := r.head ++ keysL r.keys
def Rep.put (r : Rep) : ByteArray := if r.Ok then str r.bytes else ⟨#[]⟩
theorem Rep.put_yes {r : Rep} (h : r.Ok) : r.put = str r.bytes := by unfold Rep.put; rw [if_pos h]
theorem Rep.put_no {r : Rep} (h : ¬ r.Ok) : r.put = ⟨#[]⟩ := by unfold Rep.put; rw [if_neg h]
theorem keysL_append (a b : List ByteArray) : keysL (a ++ b) = keysL a ++ keysL b := by
  induction a with
  | nil => rfl
  | cons k a ih => simp [keysL, ih]
def keysN : List ByteArray → Nat
  | [] => 0
  | k :: l => 1 + k.size + keysN l
theorem keysL_len : ∀ l, (keysL l).length = keysN l
  | [] => rfl
  | k :: l => by simp [keysL, keysN, keysL_len l]; omega
theorem keysN_append (a b : List ByteArray) : keysN (a ++ b) = keysN a + keysN b := by rw [← keysL_len, keysL_append, List.length_append, keysL_len, keysL_len]
theorem keysN_le (b : Nat) : ∀ l : List ByteArray, (∀ k ∈ l, k.size ≤ b) → keysN l ≤ (1 + b) * l.length
  | [], _ => by simp [keysN]
  | k :: l, h => by
    have h1 := h k (by simp)
    have h2 := keysN_le b l (fun k hk => h k (by simp [hk]))
    simp only [keysN, List.length_cons, Nat.mul_add, Nat.mul_one]
    omega
theorem putBig2_num (v : Int) (h0 : 0 ≤ v) (h1 : v < 65536) : numOf (putBig v 2) = v := by
  have := numOf_putBig v 2 (by decide) (by decide)
  rw [show ((2 : Nat) : Int) = 2 from rfl] at this
  rw [this]
  exact Int.emod_eq_of_lt h0 (by simpa using h1)
theorem putBig2_len' (v : Int) : (putBig v 2).length = 2 := putBig_len v 2 (by decide)
theorem Rep.head_len (r : Rep) : r.head.length = 20 + r.value.size := by
  unfold Rep.head
  simp only [List.length_cons, List.length_append, putBig8_len, putBig2_len', Array.length_toList, ByteArray.size_data, List.length_nil]
  omega
theorem Rep.bytes_len (r : Rep) : r.bytes.length = 20 + r.value.size + keysN r.keys := by unfold Rep.bytes; rw [List.length_append, Rep.head_len, keysL_len]
theorem Rep.put_size {r : Rep} (h : r.Ok) : r.put.size = 20 + r.value.size + keysN r.keys := by rw [Rep.put_yes h, str_size, Rep.bytes_len]

/-- So many keys at the beginning of bytes. -/
def takeK : Nat → List UInt8 → List ByteArray
  | 0, _ => []
  | _ + 1, [] => []
  | n + 1, x :: l => str (l.take x.toNat) :: takeK n (l.drop x.toNat)
theorem takeK_keysL : ∀ l : List ByteArray, (∀ k ∈ l, k.size < 256) → takeK l.length (keysL l) = l
  | [], _ => rfl
  | k :: l, h => by
    have h1 := h k (by simp)
    have hk : k.data.toList.length = k.size := by simp
    show str ((k.data.toList ++ keysL l).take (byteOf (k.size : Int) 0).toNat) :: takeK l.length ((k.data.toList ++ keysL l).drop (byteOf (k.size : Int) 0).toNat) = k :: l
    rw [byteOf_small _ h1, List.take_left' hk, List.drop_left' hk, str_back, takeK_keysL l (fun k hk => h k (by simp [hk]))]
/-- Bytes that are just so many keys. -/
def Good (n : Nat) (l : List UInt8) : Prop := keysL (takeK n l) = l ∧ (takeK n l).length = n
theorem Good.next {n : Nat} {l : List UInt8} (h : Good (n + 1) l) : ∃ x r, l = x :: r ∧ x.toNat ≤ r.length ∧ Good n (r.drop x.toNat) := by
  match l, h with
  | [], h =>
    have := h.2
    simp [takeK] at this
  | x :: r, ⟨h, hl⟩ =>
    unfold takeK at h hl
    simp only [keysL, List.cons.injEq, str_data, List.length_cons] at h hl
    obtain ⟨h1, h2⟩ := h
    have hx : x.toNat ≤ r.length := by
      have h3 : (str (r.take x.toNat)).size < 256 := by rw [str_size, List.length_take]; have := x.toNat_lt; omega
      have h4 := byteOf_small _ h3
      rw [h1, str_size, List.length_take] at h4
      omega
    refine ⟨x, r, rfl, hx, ?_, by omega⟩
    have h5 : r.take x.toNat ++ keysL (takeK n (r.drop x.toNat)) = r.take x.toNat ++ r.drop x.toNat := by rw [h2, List.take_append_drop]
    exact List.append_cancel_left h5

/-- The reply that bytes would be. -/
def sizeAt (l : List UInt8) : Nat := (numOf ((l.drop 17).take 2)).toNat
def countAt (l : List UInt8) : Nat := (l.getD (19 + sizeAt l) 0).toNat
def repAt (l : List UInt8) : Rep := ⟨((l.getD 0 0).toNat : Int), str ((l.drop 19).take (sizeAt l)), numOf ((l.drop 1).take 8) - 1000000000000, numOf ((l.drop 9).take 8), takeK (countAt l) (l.drop (20 + sizeAt l))⟩
theorem Rep.drops (r : Rep) : ∃ x, r.bytes.drop 1 = putBig (r.num + 1000000000000) 8 ++ (putBig r.ver 8 ++ (putBig (r.value.size : Int) 2 ++ (r.value.data.toList ++ (byteOf (r.keys.length : Int) 0 :: keysL r.keys)))) ∧
    r.bytes.drop 9 = putBig r.ver 8 ++ (putBig (r.value.size : Int) 2 ++ (r.value.data.toList ++ (byteOf (r.keys.length : Int) 0 :: keysL r.keys))) ∧
    r.bytes.drop 17 = putBig (r.value.size : Int) 2 ++ (r.value.data.toList ++ (byteOf (r.keys.length : Int) 0 :: keysL r.keys)) ∧
    r.bytes.drop 19 = r.value.data.toList ++ (byteOf (r.keys.length : Int) 0 :: keysL r.keys) ∧
    r.bytes.drop (19 + r.value.size) = byteOf (r.keys.length : Int) 0 :: keysL r.keys ∧
    r.bytes.drop (20 + r.value.size) = keysL r.keys ∧ r.bytes.getD 0 0 = x ∧ x = byteOf r.errno 0 := by
  have l1 := putBig8_len (r.num + 1000000000000)
  have l2 := putBig8_len r.ver
  have l3 := putBig2_len' (r.value.size : Int)
  have l4 : r.value.data.toList.length = r.value.size := by simp
  have d1 : r.bytes.drop 1 = putBig (r.num + 1000000000000) 8 ++ (putBig r.ver 8 ++ (putBig (r.value.size : Int) 2 ++ (r.value.data.toList ++ (byteOf (r.keys.length : Int) 0 :: keysL r.keys)))) := by
    unfold Rep.bytes Rep.head
    simp
  have d9 : r.bytes.drop 9 = putBig r.ver 8 ++ (putBig (r.value.size : Int) 2 ++ (r.value.data.toList ++ (byteOf (r.keys.length : Int) 0 :: keysL r.keys))) := by
    rw [show (9 : Nat) = 1 + 8 from rfl, ← List.drop_drop, d1, List.drop_left' l1]
  have d17 : r.bytes.drop 17 = putBig (r.value.size : Int) 2 ++ (r.value.data.toList ++ (byteOf (r.keys.length : Int) 0 :: keysL r.keys)) := by
    rw [show (17 : Nat) = 9 + 8 from rfl, ← List.drop_drop, d9, List.drop_left' l2]
  have d19 : r.bytes.drop 19 = r.value.data.toList ++ (byteOf (r.keys.length : Int) 0 :: keysL r.keys) := by
    rw [show (19 : Nat) = 17 + 2 from rfl, ← List.drop_drop, d17, List.drop_left' l3]
  have d19s : r.bytes.drop (19 + r.value.size) = byteOf (r.keys.length : Int) 0 :: keysL r.keys := by
    rw [← List.drop_drop, d19, List.drop_left' l4]
  have d20s : r.bytes.drop (20 + r.value.size) = keysL r.keys := by
    rw [show 20 + r.value.size = (19 + r.value.size) + 1 by omega, ← List.drop_drop, d19s]; rfl
  exact ⟨_, d1, d9, d17, d19, d19s, d20s, rfl, rfl⟩
theorem Rep.size_at (r : Rep) (h : r.value.size ≤ 500) : sizeAt r.bytes = r.value.size := by
  obtain ⟨_, _, _, d17, _⟩ := r.drops
  unfold sizeAt
  rw [d17, List.take_left' (putBig2_len' _), putBig2_num _ (by omega) (by omega), Int.toNat_natCast]
theorem Rep.count_at (r : Rep) (h : r.value.size ≤ 500) (hk : r.keys.length ≤ 40) : countAt r.bytes = r.keys.length := by
  obtain ⟨_, _, _, _, _, d, _⟩ := r.drops
  unfold countAt
  rw [r.size_at h, List.getD_eq_getElem?_getD, ← List.head?_drop, d]
  exact byteOf_small _ (by omega)
theorem repAt_bytes (r : Rep) (h : r.Ok) : repAt r.bytes = r := by
  obtain ⟨⟨h1, h2, h3, h4, h5⟩, h6⟩ := h
  obtain ⟨x, d1, d9, d17, d19, d19s, d20s, e0, ex⟩ := r.drops
  have l4 : r.value.data.toList.length = r.value.size := by simp
  unfold repAt
  rw [r.size_at h4, r.count_at h4 h5, d1, d9, d19, d20s, e0, ex, List.take_left' (putBig8_len _), List.take_left' (putBig8_len _), List.take_left' l4, str_back, putBig8_num _ (by omega) (by omega), putBig8_num _ (by omega) (by omega), takeK_keysL _ (fun k hk => by have := h6 k hk; omega)]
  obtain ⟨n, hn⟩ : ∃ n : Nat, r.errno = (n : Int) := Int.eq_ofNat_of_zero_le (by omega)
  rw [hn, byteOf_small n (by omega), ← hn]
  have : r.num + 1000000000000 - 1000000000000 = r.num := by omega
  rw [this]
/-- Whether bytes are a reply's, and which. -/
abbrev isRep (b : ByteArray) : Prop := (repAt b.data.toList).Ok ∧ (repAt b.data.toList).bytes = b.data.toList
def getROk (b : ByteArray) : Bool := decide (isRep b)
def getR (b : ByteArray) : Rep := if isRep b then repAt b.data.toList else Rep.zero
theorem getR_no {b : ByteArray} (h : ¬ isRep b) : getR b = Rep.zero ∧ getROk b = false := ⟨by unfold getR; rw [if_neg h], decide_eq_false h⟩
theorem getR_yes {b : ByteArray} (h : isRep b) : getR b = repAt b.data.toList ∧ getROk b = true := ⟨by unfold getR; rw [if_pos h], decide_eq_true h⟩
theorem getR_put {r : Rep} (h : r.Ok) : isRep r.put ∧ getR r.put = r ∧ getROk r.put = true := by
  have hb : r.put.data.toList = r.bytes := by rw [Rep.put_yes h, str_data]
  have hc := repAt_bytes r h
  have hi : isRep r.put := by
    unfold isRep
    rw [hb, hc]
    exact ⟨h, rfl⟩
  refine ⟨hi, ?_, decide_eq_true hi⟩
  unfold getR
  rw [if_pos hi, hb, hc]
theorem putR_get {b : ByteArray} (h : isRep b) : (getR b).Ok ∧ (getR b).put = b := by
  have e := (getR_yes h).1
  refine ⟨by rw [e]; exact h.1, ?_⟩
  rw [e, Rep.put_yes h.1, h.2, str_back]
/-- What bytes that are a reply's look like. -/
theorem isRep.facts {b : ByteArray} (h : isRep b) : 20 + sizeAt b.data.toList ≤ b.size ∧ Good (countAt b.data.toList) (b.data.toList.drop (20 + sizeAt b.data.toList)) := by
  obtain ⟨ho, hb⟩ := h
  have hl := congrArg List.length hb
  rw [Rep.bytes_len] at hl
  have hs := (repAt b.data.toList).size_at ho.1.2.2.2.1
  have hc := (repAt b.data.toList).count_at ho.1.2.2.2.1 ho.1.2.2.2.2
  obtain ⟨_, _, _, _, _, _, d, _⟩ := (repAt b.data.toList).drops
  rw [hb] at hs hc d
  have hbs : b.data.toList.length = b.size := by simp
  refine ⟨by omega, ?_, ?_⟩
  · show keysL (repAt b.data.toList).keys = _
    rw [← d, hs]
  · exact hc.symm

end Go.Proofs.YtgcbanmjfnnccaaGreat
