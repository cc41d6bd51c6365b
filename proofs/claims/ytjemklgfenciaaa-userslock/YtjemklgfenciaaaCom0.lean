/-
  Plain mathematics for chapter 10: commands and replies as bytes.
-/
import Derived.Test.YtjemklgfenciaaaOct11
namespace Go.Proofs.Ytjemklgfenciaaa
open Go.RowKit
set_option linter.unusedVariables false
set_option maxRecDepth 100000
set_option linter.unusedSimpArgs false

theorem numOf_inj : ∀ (l m : List UInt8), l.length = m.length → numOf l = numOf m → l = m
  | [], [], _, _ => rfl
  | [], _ :: _, h, _ => by simp at h
  | _ :: _, [], h, _ => by simp at h
  | a :: l, b :: m, h, e => by
    have h' : l.length = m.length := by simpa using h
    rw [numOf_cons, numOf_cons, h'] at e
    have b1 := numOf_bd l
    have b2 := numOf_bd m
    rw [h'] at b1
    have hP : (0 : Int) < 256 ^ m.length := Int.pow_pos (by decide)
    generalize (256 : Int) ^ m.length = P at *
    have hab : (a.toNat : Int) = (b.toNat : Int) := by
      have e1 : ((a.toNat : Int) * P + numOf l) / P = (a.toNat : Int) := by
        rw [Int.add_comm, Int.add_mul_ediv_right _ _ (by omega), Int.ediv_eq_zero_of_lt b1.1 b1.2, Int.zero_add]
      have e2 : ((b.toNat : Int) * P + numOf m) / P = (b.toNat : Int) := by
        rw [Int.add_comm, Int.add_mul_ediv_right _ _ (by omega), Int.ediv_eq_zero_of_lt b2.1 b2.2, Int.zero_add]
      rw [← e1, ← e2, e]
    have hn : numOf l = numOf m := by rw [hab] at e; omega
    have hab' : a = b := UInt8.toNat_inj.1 (by omega)
    rw [hab', numOf_inj l m h' hn]
theorem numOf_putBig (v : Int) (n : Nat) (h1 : 1 ≤ n) (h8 : n ≤ 8) : numOf (putBig v (n : Int)) = v % 256 ^ n := by
  rw [putBig_rev, putLittle, if_pos (by omega), Int.toNat_natCast, little_num]
theorem putBig_numOf (l : List UInt8) (h1 : 1 ≤ l.length) (h8 : l.length ≤ 8) : putBig (numOf l) (l.length : Int) = l := by
  apply numOf_inj
  · rw [putBig_len _ _ (by omega), Int.toNat_natCast]
  · rw [numOf_putBig _ _ h1 h8]
    have := numOf_bd l
    exact Int.emod_eq_of_lt this.1 this.2

/-- Operations' classes and names. -/
def classN (op : Int) : Int := if op = 1 ∨ op = 10 ∨ op = 11 then 1 else if 2 ≤ op ∧ op ≤ 9 then 2 else if op = 12 ∨ op = 13 then 3 else 0
def opNameL : List ByteArray := [⟨#[]⟩, ⟨#[103, 101, 116]⟩, ⟨#[115, 101, 116]⟩, ⟨#[97, 100, 100]⟩, ⟨#[114, 101, 112, 108, 97, 99, 101]⟩, ⟨#[100, 101, 108]⟩, ⟨#[99, 97, 115]⟩, ⟨#[105, 110, 99, 114]⟩, ⟨#[97, 112, 112, 101, 110, 100]⟩, ⟨#[116, 111, 117, 99, 104]⟩, ⟨#[116, 116, 108]⟩, ⟨#[115, 99, 97, 110]⟩, ⟨#[102, 108, 117, 115, 104]⟩, ⟨#[115, 116, 97, 116, 115]⟩]
def opNameS (op : Int) : ByteArray := if 0 ≤ op ∧ op ≤ 13 then opNameL.getD op.toNat ⟨#[]⟩ else ⟨#[]⟩

structure Cmd where
  op : Int
  key : ByteArray
  value : ByteArray
  num : Int
  ver : Int
def Cmd.zero : Cmd := ⟨0, ⟨#[]⟩, ⟨#[]⟩, 0, 0⟩
def Cmd.v (c : Cmd) : Value := .agg #[.int .i64 c.op, .string c.key, .string c.value, .int .i64 c.num, .int .i64 c.ver]
/-- What a variable of its type may hold. -/
def Cmd.Fits (c : Cmd) : Prop := (-9223372036854775808 ≤ c.op ∧ c.op ≤ 9223372036854775807) ∧ c.key.size ≤ 1000000 ∧ c.value.size ≤ 1000000 ∧ (-9223372036854775808 ≤ c.num ∧ c.num ≤ 9223372036854775807) ∧ (-9223372036854775808 ≤ c.ver ∧ c.ver ≤ 9223372036854775807)
abbrev keyOk (op : Int) (n : Nat) : Prop := if op = 11 then True else if op = 12 ∨ op = 13 then n = 0 else 1 ≤ n
abbrev Cmd.Right (c : Cmd) : Prop := (1 ≤ c.op ∧ c.op ≤ 13) ∧ keyOk c.op c.key.size ∧ c.key.size ≤ 60 ∧ c.value.size ≤ 500 ∧ (-1000000000000 ≤ c.num ∧ c.num ≤ 1000000000000) ∧ (0 ≤ c.ver ∧ c.ver ≤ 1000000000000)
def Cmd.right (c : Cmd) : Bool := decide c.Right
def Cmd.bytes (c : Cmd) : List UInt8 := byteOf c.op 0 :: (putBig (c.num + 1000000000000) 8 ++ (putBig c.ver 8 ++ (byteOf (c.key.size : Int) 0 :: (c.key.data.toList ++ c.value.data.toList))))
def Cmd.put (c : Cmd) : ByteArray := if c.Right then str c.bytes else ⟨#[]⟩
theorem Cmd.put_yes {c : Cmd} (h : c.Right) : c.put = str c.bytes := by unfold Cmd.put; rw [if_pos h]
theorem Cmd.put_no {c : Cmd} (h : ¬ c.Right) : c.put = ⟨#[]⟩ := by unfold Cmd.put; rw [if_neg h]

theorem byteOf_small (n : Nat) (h : n < 256) : (byteOf (n : Int) 0).toNat = n := by
  have := byteOf_val (n : Int) 0
  simp at this
  omega
theorem byteOf_back (x : UInt8) : byteOf (x.toNat : Int) 0 = x := UInt8.toNat_inj.1 (byteOf_small x.toNat x.toNat_lt)
theorem putBig8_len (v : Int) : (putBig v 8).length = 8 := putBig_len v 8 (by decide)
theorem putBig8_num (v : Int) (h0 : 0 ≤ v) (h1 : v < 18446744073709551616) : numOf (putBig v 8) = v := by
  have := numOf_putBig v 8 (by decide) (by decide)
  rw [show ((8 : Nat) : Int) = 8 from rfl] at this
  rw [this]
  exact Int.emod_eq_of_lt h0 (by simpa using h1)
theorem Cmd.bytes_len (c : Cmd) : c.bytes.length = 18 + c.key.size + c.value.size := by
  unfold Cmd.bytes
  simp only [List.length_cons, List.length_append, putBig8_len, Array.length_toList, ByteArray.size_data]
  omega
theorem Cmd.put_size {c : Cmd} (h : c.Right) : c.put.size = 18 + c.key.size + c.value.size := by rw [Cmd.put_yes h, str_size, Cmd.bytes_len]

/-- The command that bytes would be. -/
def cmdAt (l : List UInt8) : Cmd :=
  let k := (l.getD 17 0).toNat
  ⟨((l.getD 0 0).toNat : Int), str ((l.drop 18).take k), str (l.drop (18 + k)), numOf ((l.drop 1).take 8) - 1000000000000, numOf ((l.drop 9).take 8)⟩
theorem Cmd.drop17 (c : Cmd) : c.bytes.drop 17 = byteOf (c.key.size : Int) 0 :: (c.key.data.toList ++ c.value.data.toList) := by
  have l1 := putBig8_len (c.num + 1000000000000)
  have l2 := putBig8_len c.ver
  have d1 : c.bytes.drop 1 = putBig (c.num + 1000000000000) 8 ++ (putBig c.ver 8 ++ (byteOf (c.key.size : Int) 0 :: (c.key.data.toList ++ c.value.data.toList))) := rfl
  have d9 : c.bytes.drop 9 = putBig c.ver 8 ++ (byteOf (c.key.size : Int) 0 :: (c.key.data.toList ++ c.value.data.toList)) := by
    rw [show (9 : Nat) = 1 + 8 from rfl, ← List.drop_drop, d1, List.drop_left' l1]
  rw [show (17 : Nat) = 9 + 8 from rfl, ← List.drop_drop, d9, List.drop_left' l2]
theorem Cmd.at17 (c : Cmd) (h : c.key.size < 256) : (c.bytes.getD 17 0).toNat = c.key.size := by
  have e17 : c.bytes.getD 17 0 = byteOf (c.key.size : Int) 0 := by
    rw [List.getD_eq_getElem?_getD, ← List.head?_drop, Cmd.drop17]; rfl
  rw [e17, byteOf_small _ h]
theorem cmdAt_bytes (c : Cmd) (h : c.Right) : cmdAt c.bytes = c := by
  obtain ⟨h1, h2, h3, h4, h5, h6⟩ := h
  have e1 : c.bytes.getD 0 0 = byteOf c.op 0 := rfl
  have l1 := putBig8_len (c.num + 1000000000000)
  have l2 := putBig8_len c.ver
  have d1 : c.bytes.drop 1 = putBig (c.num + 1000000000000) 8 ++ (putBig c.ver 8 ++ (byteOf (c.key.size : Int) 0 :: (c.key.data.toList ++ c.value.data.toList))) := rfl
  have d9 : c.bytes.drop 9 = putBig c.ver 8 ++ (byteOf (c.key.size : Int) 0 :: (c.key.data.toList ++ c.value.data.toList)) := by
    rw [show (9 : Nat) = 1 + 8 from rfl, ← List.drop_drop, d1, List.drop_left' l1]
  have d17 : c.bytes.drop 17 = byteOf (c.key.size : Int) 0 :: (c.key.data.toList ++ c.value.data.toList) := by
    rw [show (17 : Nat) = 9 + 8 from rfl, ← List.drop_drop, d9, List.drop_left' l2]
  have e17 : c.bytes.getD 17 0 = byteOf (c.key.size : Int) 0 := by
    rw [List.getD_eq_getElem?_getD, ← List.head?_drop, d17]; rfl
  have k17 : (c.bytes.getD 17 0).toNat = c.key.size := by rw [e17, byteOf_small _ (by omega)]
  have d18 : c.bytes.drop 18 = c.key.data.toList ++ c.value.data.toList := by
    rw [show (18 : Nat) = 17 + 1 from rfl, ← List.drop_drop, d17]; rfl
  have lk : c.key.data.toList.length = c.key.size := by simp
  unfold cmdAt
  simp only [k17]
  rw [e1, d1, d9, ← List.drop_drop, d18, List.take_left' l1, List.take_left' l2, List.take_left' lk, List.drop_left' lk, str_back, str_back, putBig8_num _ (by omega) (by omega), putBig8_num _ (by omega) (by omega)]
  obtain ⟨n, hn⟩ : ∃ n : Nat, c.op = (n : Int) := Int.eq_ofNat_of_zero_le (by omega)
  rw [hn, byteOf_small n (by omega), ← hn]
  have : c.num + 1000000000000 - 1000000000000 = c.num := by omega
  rw [this]
theorem cmdAt_back (l : List UInt8) (h18 : 18 + (l.getD 17 0).toNat ≤ l.length) : (cmdAt l).bytes = l := by
  have hk : (str ((l.drop 18).take (l.getD 17 0).toNat)).size = (l.getD 17 0).toNat := by rw [str_size, List.length_take, List.length_drop]; omega
  unfold cmdAt Cmd.bytes
  simp only [hk]
  have h0 : byteOf ((l.getD 0 0).toNat : Int) 0 = l.getD 0 0 := byteOf_back _
  have h17 : byteOf ((l.getD 17 0).toNat : Int) 0 = l.getD 17 0 := byteOf_back _
  have q1 : ((l.drop 1).take 8).length = 8 := by rw [List.length_take, List.length_drop]; omega
  have q9 : ((l.drop 9).take 8).length = 8 := by rw [List.length_take, List.length_drop]; omega
  have p1 := putBig_numOf ((l.drop 1).take 8) (by omega) (by omega)
  have p9 := putBig_numOf ((l.drop 9).take 8) (by omega) (by omega)
  rw [q1] at p1
  rw [q9] at p9
  have e : numOf ((l.drop 1).take 8) - 1000000000000 + 1000000000000 = numOf ((l.drop 1).take 8) := by omega
  rw [h0, h17, e, show ((8 : Int)) = ((8 : Nat) : Int) from rfl, p1, p9, str_data, str_data]
  have t0 : l = l.getD 0 0 :: l.drop 1 := by
    match l, h18 with
    | [], h => simp at h
    | a :: l, _ => rfl
  have t17 : l.drop 17 = l.getD 17 0 :: l.drop 18 := by
    rw [List.drop_eq_getElem_cons (by omega), List.getD_eq_getElem?_getD, List.getElem?_eq_getElem (by omega)]; rfl
  rw [show l.drop (18 + (l.getD 17 0).toNat) = (l.drop 18).drop (l.getD 17 0).toNat by rw [List.drop_drop], List.take_append_drop, ← t17, show l.drop 17 = (l.drop 9).drop 8 by rw [List.drop_drop], List.take_append_drop, show l.drop 9 = (l.drop 1).drop 8 by rw [List.drop_drop], List.take_append_drop]
  exact t0.symm
theorem Cmd.put_inj {c d : Cmd} (hc : c.Right) (hd : d.Right) (h : c.put = d.put) : c = d := by
  rw [Cmd.put_yes hc, Cmd.put_yes hd] at h
  have := congrArg (fun s : ByteArray => s.data.toList) h
  simp only [str_data] at this
  rw [← cmdAt_bytes c hc, ← cmdAt_bytes d hd, this]

/-- Whether bytes are a command's, and which. -/
abbrev isCmd (b : ByteArray) : Prop := 18 + (b.data.toList.getD 17 0).toNat ≤ b.size ∧ (cmdAt b.data.toList).Right
def getOk (b : ByteArray) : Bool := decide (isCmd b)
def getC (b : ByteArray) : Cmd := if isCmd b then cmdAt b.data.toList else Cmd.zero
theorem get_no {b : ByteArray} (h : ¬ isCmd b) : getC b = Cmd.zero ∧ getOk b = false := ⟨by unfold getC; rw [if_neg h], decide_eq_false h⟩
theorem get_yes {b : ByteArray} (h : isCmd b) : getC b = cmdAt b.data.toList ∧ getOk b = true := ⟨by unfold getC; rw [if_pos h], decide_eq_true h⟩
theorem get_put {c : Cmd} (h : c.Right) : isCmd c.put ∧ getC c.put = c ∧ getOk c.put = true := by
  have hb : c.put.data.toList = c.bytes := by rw [Cmd.put_yes h, str_data]
  have hc := cmdAt_bytes c h
  have hk : (c.bytes.getD 17 0).toNat = c.key.size := c.at17 (by have := h.2.2.1; omega)
  have hi : isCmd c.put := by
    refine ⟨?_, ?_⟩
    · rw [hb, hk, Cmd.put_size h]; omega
    · rw [hb, hc]; exact h
  refine ⟨hi, ?_, decide_eq_true hi⟩
  unfold getC
  rw [if_pos hi, hb, hc]
theorem put_get {b : ByteArray} (h : isCmd b) : (getC b).Right ∧ (getC b).put = b := by
  have e : getC b = cmdAt b.data.toList := by unfold getC; rw [if_pos h]
  have hr : (getC b).Right := by rw [e]; exact h.2
  refine ⟨hr, ?_⟩
  rw [Cmd.put_yes hr, e, cmdAt_back _ (by simpa using h.1), str_back]

end Go.Proofs.Ytjemklgfenciaaa
