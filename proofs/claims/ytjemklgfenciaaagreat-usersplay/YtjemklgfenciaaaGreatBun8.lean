/-
  Parts of this proof, one behind the other: Oct2, Fill0, Oct4, Oct11, Com0.
-/
import Derived.Test.YtjemklgfenciaaaGreatBun3
import Derived.Laws.IdiomStrings

/-
  The contracts of package octet's PutBig and PutLittle, and of the reference's.
-/
namespace Go.Proofs.YtjemklgfenciaaaGreat
open Go.RowKit
set_option linter.unusedVariables false
set_option maxRecDepth 100000

theorem info8 : (Tryz.prog.info? 5).map (fun i => (i.zero, i.size, i.bytes)) = some (some (.int .u8 0), 1, 1) := by kernel_rfl

theorem cells8_len (l : List UInt8) : (cells8 l).length = l.length := by simp [cells8]
theorem cells8_at (l : List UInt8) (j : Nat) (h : j < l.length) : (cells8 l)[j]? = some (.int .u8 (l[j].toNat : Int)) := by
  simp [cells8, h, cell8]
theorem cells8_set (l : List UInt8) (j : Nat) (b : UInt8) : (cells8 l).set j (cell8 b) = cells8 (l.set j b) := by
  simp [cells8, List.map_set]
theorem made8 (n : Nat) : (madeCells #[.int .u8 0] n).toList = cells8 (List.replicate n 0) := by
  rw [toList_madeCells_one]
  simp [cells8, cell8]

/-- A row of bytes that the call made, as a string. -/
theorem own_string {wr : World} {base g n cap : Nat} {l : List UInt8} (h : wr.ownsRow base 5 1 (.slice (some ⟨g, 0, none⟩) n cap) n (cells8 l)) :
    (convert 141 9 (.slice (some ⟨g, 0, none⟩) n cap)).run Tryz.prog wr = .ok (.string (str l)) wr := by
  have hl : n = l.length := by have := h.1; rw [cells8_len] at this; omega
  subst hl
  refine run_convert_bytes_back wr _ _ 5 ⟨g, 0, none⟩ cap l Tryz.underlying141 Tryz.underlying5 Tryz.underlying9 ?_
  intro j hj
  have := h.cellAt j (by omega)
  rw [cells8_at l j hj] at this
  rw [show (⟨g, 0, none⟩ : Addr).add j = ⟨g, j, none⟩ from by simp [Addr.add]; exact fun h => h.symm]; exact this

/-- A byte stored into such a row. -/
theorem own_store {w wr : World} {base g n cap : Nat} {l : List UInt8} (h : wr.ownsRow base 5 1 (.slice (some ⟨g, 0, none⟩) n cap) n (cells8 l)) (hb : Below base w wr) (hg : base ≤ g) (j : Nat) (b : UInt8) :
    (wr.setCell ⟨g, j, none⟩ (.int .u8 (b.toNat : Int))).ownsRow base 5 1 (.slice (some ⟨g, 0, none⟩) n cap) n (cells8 (l.set j b)) ∧ Below base w (wr.setCell ⟨g, j, none⟩ (.int .u8 (b.toNat : Int))) := by
  have := (h.stored j (cell8 b)).1
  rw [cells8_set] at this
  exact ⟨this, hb.setCell hg _⟩

theorem set_back {l : List UInt8} {n k : Nat} {f : Nat → UInt8} (hl : l.length = n) (h : ∀ j, j < k → l[n - 1 - j]? = some (f j)) (hk : k < n) :
    ∀ j, j < k + 1 → (l.set (n - 1 - k) (f k))[n - 1 - j]? = some (f j) := by
  intro j hj
  rw [List.getElem?_set]
  by_cases e : j = k
  · subst e; rw [if_pos rfl, if_pos (by omega)]
  · rw [if_neg (by omega)]; exact h j (by omega)

theorem big_of {l : List UInt8} {n : Nat} {f : Nat → UInt8} (hl : l.length = n) (h : ∀ j, j < n → l[n - 1 - j]? = some (f j)) : l = (List.range n).map (fun j => f (n - 1 - j)) := by
  refine list_eq_map hl fun j hj => ?_
  have := h (n - 1 - j) (by omega)
  rwa [show n - 1 - (n - 1 - j) = j from by omega] at this

theorem putBigS_no (v n : Int) (h : ¬ (1 ≤ n ∧ n ≤ 8)) : putBigS v n = ⟨#[]⟩ := by
  unfold putBigS putBig; rw [if_neg h]; rfl
theorem putLittleS_no (v n : Int) (h : ¬ (1 ≤ n ∧ n ≤ 8)) : putLittleS v n = ⟨#[]⟩ := by
  unfold putLittleS putLittle; rw [if_neg h]; rfl
theorem ret_str {a b : ByteArray} (h : a = b) : Ending.returned (.string a) = .returned (.string b) := by rw [h]

theorem set_fore {l : List UInt8} {n k : Nat} {f : Nat → UInt8} (hl : l.length = n) (h : ∀ j, j < k → l[j]? = some (f j)) (hk : k < n) :
    ∀ j, j < k + 1 → (l.set k (f k))[j]? = some (f j) := by
  intro j hj
  rw [List.getElem?_set]
  by_cases e : k = j
  · subst e; rw [if_pos rfl, if_pos (by omega)]
  · rw [if_neg e]; exact h j (by omega)

end Go.Proofs.YtjemklgfenciaaaGreat

/-
  The laws' own helper 'Fill' of chapter 5: a text of just n bytes.
-/
namespace Go.Proofs.YtjemklgfenciaaaGreat
open Go.RowKit
set_option linter.unusedVariables false
set_option maxRecDepth 100000

/-- A text of just n bytes: its first ones, zeros behind. -/
def fill5L (l : List UInt8) (n : Nat) : List UInt8 := (l ++ List.replicate (n - l.length) 0).take n
def fillS (s : ByteArray) (n : Nat) : ByteArray := str (fill5L s.data.toList n)
theorem fillS_size (s : ByteArray) (n : Nat) : (fillS s n).size = n := by
  rw [fillS, str_size]; unfold fill5L; simp; omega
theorem fillS_of (t s : ByteArray) (n k : Nat) (ht : t.data.toList = s.data.toList ++ List.replicate k 0) (h : n ≤ t.size) (hk : k = 0 ∨ t.size ≤ n) : t.extract 0 n = fillS s n := by
  unfold fillS str fill5L
  apply ByteArray.ext
  rw [ByteArray.data_extract]
  apply Array.toList_inj.1
  rw [Array.toList_extract]
  have hl : t.size = s.size + k := by
    have := congrArg List.length ht
    simpa using this
  rcases hk with rfl | hk
  · simp only [List.replicate_zero, List.append_nil] at ht
    rw [ht]
    have : n - s.data.toList.length = 0 := by simp; omega
    rw [this]
    simp
  · rw [ht]
    have : n - s.data.toList.length = k := by simp; omega
    rw [this]
    simp
theorem zero_snoc (a : ByteArray) : (a ++ ⟨#[0]⟩).data.toList = a.data.toList ++ [0] := by simp

set_option maxHeartbeats 1000000 in
theorem law5_fill (s : ByteArray) (n : Nat) (w : World) (hs : s.size ≤ 9223372036854775807) (hn : n ≤ 1000000) :
    Calls Tryz.prog 23 #[.string s, .int .i64 n] w fun e w' => e = .returned (.string (fillS s n)) ∧ w = w' := by
  go_enter Tryz.func23, Tryz.ntmps23
  go_wp2_with fail
  go_loopw [0] (fun v wr => ∃ (k : Nat) (t : ByteArray), v = .string t ∧ t.data.toList = s.data.toList ++ List.replicate k 0 ∧ (k = 0 ∨ t.size ≤ n) ∧ wr = w) (fun v _ => match v with | .string t => n - t.size | _ => 0)
  case atStart => exact ⟨0, s, rfl, by simp, Or.inl rfl, rfl⟩
  case round =>
    obtain ⟨k, t, rfl, ht, hk, rfl⟩ := hrel
    by_cases hlt : t.size < n
    · have hcmp : (t.size : Int) < (n : Int) := by omega
      have hln : ¬ (9223372036854775807 < t.size + 1) := by omega
      have h2 : (t ++ ⟨#[0]⟩).data.toList = s.data.toList ++ List.replicate (k + 1) 0 := by
        rw [zero_snoc, ht, List.append_assoc]
        congr 1
        exact (List.replicate_succ' (n := k) (a := (0 : UInt8))).symm
      have h3 : (t ++ ⟨#[0]⟩).size = t.size + 1 := by simp; rfl
      clear ht hk
      generalize hT : t ++ ⟨#[0]⟩ = T at *
      go_wp2
      go_roundw
      case rel => exact ⟨k + 1, T, rfl, h2, Or.inr (by omega), by first | rfl | trivial⟩
      case measure => simp [h3]; omega
    · have hcmp : ¬ (t.size : Int) < (n : Int) := by omega
      have hle : (n : Int) ≤ (t.size : Int) := by omega
      have HF : Hid (t.extract 0 n = fillS s n) := fillS_of t s n k ht (by omega) hk
      have hx : (t.extract 0 n) = t.extract 0 n := rfl
      go_wp2
      go_ret
      exact ⟨by simp [HF.out], rfl⟩

theorem law5_fill32 (s : ByteArray) (w : World) (hs : s.size ≤ 9223372036854775807) :
    Calls Tryz.prog 23 #[.string s, .int .i64 32] w fun e w' => e = .returned (.string (fillS s 32)) ∧ w = w' := law5_fill s 32 w hs (by decide)
theorem law5_fill12 (s : ByteArray) (w : World) (hs : s.size ≤ 9223372036854775807) :
    Calls Tryz.prog 23 #[.string s, .int .i64 12] w fun e w' => e = .returned (.string (fillS s 12)) ∧ w = w' := law5_fill s 12 w hs (by decide)

theorem law5_fill16 (s : ByteArray) (w : World) (hs : s.size ≤ 9223372036854775807) :
    Calls Tryz.prog 23 #[.string s, .int .i64 16] w fun e w' => e = .returned (.string (fillS s 16)) ∧ w = w' := law5_fill s 16 w hs (by decide)

end Go.Proofs.YtjemklgfenciaaaGreat

/-
  The contracts of Big and Little, package octet's and the reference's.
-/
namespace Go.Proofs.YtjemklgfenciaaaGreat
open Go.RowKit
set_option linter.unusedVariables false
set_option maxRecDepth 100000

/-- The number that bytes are, the highest first. -/
def numOf (l : List UInt8) : Int := l.foldl (fun v b => v * 256 + (b.toNat : Int)) 0
def bigS (s : ByteArray) : Int := numOf (s.data.toList.drop (s.size - 8))
def littleS (s : ByteArray) : Int := numOf (s.data.toList.take 8).reverse

theorem numOf_snoc (l : List UInt8) (b : UInt8) : numOf (l ++ [b]) = numOf l * 256 + (b.toNat : Int) := by simp [numOf]
theorem numOf_from (l : List UInt8) : ∀ v : Int, l.foldl (fun v b => v * 256 + (b.toNat : Int)) v = v * 256 ^ l.length + numOf l := by
  induction l with
  | nil => intro v; simp [numOf]
  | cons b l ih =>
    intro v
    have h := ih ((0 : Int) * 256 + (b.toNat : Int))
    simp only [numOf, List.foldl_cons, List.length_cons] at h ⊢
    rw [ih, h, Int.pow_succ, Int.add_mul, Int.add_mul, Int.zero_mul, Int.zero_mul, Int.zero_add, Int.mul_assoc, Int.mul_comm 256, Int.add_assoc]
    rfl
theorem numOf_cons (b : UInt8) (l : List UInt8) : numOf (b :: l) = (b.toNat : Int) * 256 ^ l.length + numOf l := by
  rw [show numOf (b :: l) = l.foldl (fun v b => v * 256 + (b.toNat : Int)) ((0 : Int) * 256 + (b.toNat : Int)) from rfl, numOf_from]
  simp
theorem numOf_append (l m : List UInt8) : numOf (l ++ m) = numOf l * 256 ^ m.length + numOf m := by
  rw [show numOf (l ++ m) = m.foldl (fun v b => v * 256 + (b.toNat : Int)) (numOf l) from by unfold numOf; rw [List.foldl_append], numOf_from]
theorem numOf_bd (l : List UInt8) : 0 ≤ numOf l ∧ numOf l < 256 ^ l.length := by
  induction l with
  | nil => simp [numOf]
  | cons b l ih =>
    rw [numOf_cons, List.length_cons, Int.pow_succ]
    have h1 := b.toNat_lt
    have h2 : (b.toNat : Int) * 256 ^ l.length ≤ 255 * 256 ^ l.length := Int.mul_le_mul_of_nonneg_right (by omega) (Int.pow_nonneg (by decide))
    have h3 : 0 ≤ (b.toNat : Int) * 256 ^ l.length := Int.mul_nonneg (by omega) (Int.pow_nonneg (by decide))
    omega
theorem pow256_le (a b : Nat) (h : a ≤ b) : (256 : Int) ^ a ≤ 256 ^ b := by
  have h2 : (256 : Nat) ^ a ≤ 256 ^ b := Nat.pow_le_pow_right (by decide) h
  have e : ∀ n : Nat, ((256 ^ n : Nat) : Int) = (256 : Int) ^ n := fun n => by rw [Int.natCast_pow]; rfl
  rw [← e, ← e]
  exact Int.ofNat_le.2 h2
theorem numOf_bd7 (l : List UInt8) (h : l.length ≤ 7) : 0 ≤ numOf l ∧ numOf l ≤ 72057594037927935 := by
  have := numOf_bd l
  have h2 : (256 : Int) ^ l.length ≤ 256 ^ 7 := pow256_le _ _ h
  have h3 : (256 : Int) ^ 7 = 72057594037927936 := by decide
  omega
theorem numOf_bd8 (l : List UInt8) (h : l.length ≤ 8) : 0 ≤ numOf l ∧ numOf l < 18446744073709551616 := by
  have := numOf_bd l
  have h2 : (256 : Int) ^ l.length ≤ 256 ^ 8 := pow256_le _ _ h
  have h3 : (256 : Int) ^ 8 = 18446744073709551616 := by decide
  omega
theorem bigS_bd (s : ByteArray) : 0 ≤ bigS s ∧ bigS s < 18446744073709551616 := numOf_bd8 _ (by simp; omega)
theorem littleS_bd (s : ByteArray) : 0 ≤ littleS s ∧ littleS s < 18446744073709551616 := numOf_bd8 _ (by simp; omega)

theorem take_snoc (s : ByteArray) (k : Nat) (h : k < s.size) : s.data.toList.take (k + 1) = s.data.toList.take k ++ [s[k]] := by
  rw [List.take_succ_eq_append_getElem (by simpa using h)]; rfl

theorem or256 (V : Int) (b : UInt8) (h0 : 0 ≤ V) (h1 : V ≤ 72057594037927935) : bits BinOp.or IntKind.u64 (V * 256) (b.toNat : Int) = V * 256 + (b.toNat : Int) := by
  have := b.toNat_lt
  rw [u64_or _ _ (by omega) (by omega) (by omega) (by omega), nat_join 8 _ _ (by omega) (by omega)]
  omega

theorem drop_cons (s : ByteArray) (r : Nat) (h : r < s.size) : s.data.toList.drop r = s[r] :: s.data.toList.drop (r + 1) := by
  rw [List.drop_eq_getElem_cons (by simpa using h)]; rfl

theorem rev_snoc (s : ByteArray) (r : Nat) (h : r < s.size) : numOf (s.data.toList.drop r).reverse = numOf (s.data.toList.drop (r + 1)).reverse * 256 + (s[r].toNat : Int) := by
  rw [drop_cons s r h, List.reverse_cons, numOf_snoc]

end Go.Proofs.YtjemklgfenciaaaGreat

/-
  Plain facts on bytes of numbers: both orders are one another's reverse; they go back.
-/
namespace Go.Proofs.YtjemklgfenciaaaGreat
open Go.RowKit
set_option linter.unusedVariables false
set_option maxRecDepth 100000

theorem str_data (l : List UInt8) : (str l).data.toList = l := by simp [str]
theorem putBig_rev (v n : Int) : putBig v n = (putLittle v n).reverse := by
  unfold putBig putLittle
  split
  · apply List.ext_getElem
    · simp
    · intro i h1 h2
      simp at h1
      simp [List.getElem_reverse]
  · rfl
theorem putLittle_len (v n : Int) (h : 1 ≤ n ∧ n ≤ 8) : (putLittle v n).length = n.toNat := by
  unfold putLittle; rw [if_pos h]; simp
theorem putBig_len (v n : Int) (h : 1 ≤ n ∧ n ≤ 8) : (putBig v n).length = n.toNat := by
  rw [putBig_rev, List.length_reverse, putLittle_len v n h]
theorem putBigS_size (v n : Int) (h : 1 ≤ n ∧ n ≤ 8) : (putBigS v n).size = n.toNat := by
  unfold putBigS; rw [str_size, putBig_len v n h]
theorem putLittleS_size (v n : Int) (h : 1 ≤ n ∧ n ≤ 8) : (putLittleS v n).size = n.toNat := by
  unfold putLittleS; rw [str_size, putLittle_len v n h]
theorem putBigS_le (v n : Int) : (putBigS v n).size ≤ 8 := by
  by_cases h : 1 ≤ n ∧ n ≤ 8
  · rw [putBigS_size v n h]; omega
  · rw [show (putBigS v n).size = 0 from by unfold putBigS putBig; rw [if_neg h]; rfl]; omega
theorem putLittleS_le (v n : Int) : (putLittleS v n).size ≤ 8 := by
  by_cases h : 1 ≤ n ∧ n ≤ 8
  · rw [putLittleS_size v n h]; omega
  · rw [show (putLittleS v n).size = 0 from by unfold putLittleS putLittle; rw [if_neg h]; rfl]; omega
theorem big_little (v n : Int) : bigS (putBigS v n) = littleS (putLittleS v n) := by
  unfold bigS littleS
  have h1 := putBigS_le v n
  have h2 := putLittleS_le v n
  rw [show (putBigS v n).size - 8 = 0 from by omega, List.drop_zero, List.take_of_length_le (by simpa using h2)]
  unfold putBigS putLittleS
  rw [str_data, str_data, putBig_rev]

theorem str_at (l : List UInt8) (k : Nat) (h : k < (str l).size) : (str l)[k] = l[k]'(by rwa [str_size] at h) := by
  show (str l).data[k] = _
  simp [str]

theorem big_little_at (v n : Int) (k : Nat) (h : 1 ≤ n ∧ n ≤ 8) (h1 : k < (putBigS v n).size) (h2 : n.toNat - 1 - k < (putLittleS v n).size) : (putBigS v n)[k] = (putLittleS v n)[n.toNat - 1 - k] := by
  have e1 := putBigS_size v n h
  rw [show (putBigS v n)[k] = (putBig v n)[k]'(by rw [putBig_len v n h]; omega) from str_at _ _ h1, show (putLittleS v n)[n.toNat - 1 - k] = (putLittle v n)[n.toNat - 1 - k]'(by rw [putLittle_len v n h]; omega) from str_at _ _ h2]
  unfold putBig putLittle
  simp [h]

theorem mod_step (v P : Int) (hP : 0 < P) : v % (P * 256) = v / P % 256 * P + v % P := by
  have h1 := Int.mul_ediv_add_emod v P
  have h2 := Int.mul_ediv_add_emod (v / P) 256
  have r0 := Int.emod_nonneg v (Int.ne_of_gt hP)
  have r1 := Int.emod_lt_of_pos v hP
  have q0 : 0 ≤ v / P % 256 := by omega
  have q1 : v / P % 256 ≤ 255 := by omega
  generalize v / P % 256 = c at *
  generalize v / P / 256 = d at *
  generalize v % P = r at *
  have hv : v = (c * P + r) + (P * 256) * d := by
    rw [← h1, ← h2, Int.mul_add, Int.mul_comm P c, Int.mul_assoc P 256 d]
    omega
  rw [hv, Int.add_mul_emod_self_left]
  have hc : c * P ≤ 255 * P := Int.mul_le_mul_of_nonneg_right q1 (Int.le_of_lt hP)
  have hc0 : 0 ≤ c * P := Int.mul_nonneg q0 (Int.le_of_lt hP)
  exact Int.emod_eq_of_lt (by omega) (by omega)

/-- The lowest bytes of a number, the lowest first, make it up again. -/
theorem little_num (v : Int) : ∀ n : Nat, numOf ((List.range n).map (byteOf v)).reverse = v % 256 ^ n := by
  intro n
  induction n with
  | zero => simp [numOf, Int.emod_one]
  | succ n ih =>
    rw [List.range_succ, List.map_append, List.reverse_append, List.map_singleton, List.reverse_singleton, List.singleton_append, numOf_cons, ih, byteOf_val]
    simp only [List.length_reverse, List.length_map, List.length_range]
    have e : (2 : Int) ^ (8 * n) = 256 ^ n := by rw [Int.pow_mul]; rfl
    rw [e, Int.pow_succ]
    exact (mod_step v (256 ^ n) (Int.pow_pos (by decide))).symm

theorem little_back (v : Int) (h0 : 0 ≤ v) (h1 : v < 18446744073709551616) : littleS (putLittleS v 8) = v := by
  unfold littleS
  rw [List.take_of_length_le (by simpa using putLittleS_le v 8)]
  unfold putLittleS
  rw [str_data]
  unfold putLittle
  rw [if_pos (by omega), show (8 : Int).toNat = 8 from rfl, little_num, show (256 : Int) ^ 8 = 18446744073709551616 from by decide]
  omega
theorem big_back (v : Int) (h0 : 0 ≤ v) (h1 : v < 18446744073709551616) : bigS (putBigS v 8) = v := by
  rw [big_little, little_back v h0 h1]

end Go.Proofs.YtjemklgfenciaaaGreat

/-
  Plain mathematics for chapter 10: commands and replies as bytes.
-/
namespace Go.Proofs.YtjemklgfenciaaaGreat
open Go.RowKit
set_option linter.unusedVariables false
set_option maxRecDepth 100000
set_option linter.unusedSimpArgs false

theorem numOf_inj : ∀ (l m : List UInt8), l.length = m.length → numOf l = numOf m → l = m
  | [], [], _, _ => rfl
  | [], _ :: _, h, _ => by simp at h
  | _ :: _, [], h, _ => by simp at h
  | a :: l, b :: m, h, e => by
    have h' : l.length = m.length := by simpa using h
    rw [numOf_cons, numOf_cons, h'] at e
    have b1 := numOf_bd l
    have b2 := numOf_bd m
    rw [h'] at b1
    have hP : (0 : Int) < 256 ^ m.length := Int.pow_pos (by decide)
    generalize (256 : Int) ^ m.length = P at *
    have hab : (a.toNat : Int) = (b.toNat : Int) := by
      have e1 : ((a.toNat : Int) * P + numOf l) / P = (a.toNat : Int) := by
        rw [Int.add_comm, Int.add_mul_ediv_right _ _ (by omega), Int.ediv_eq_zero_of_lt b1.1 b1.2, Int.zero_add]
      have e2 : ((b.toNat : Int) * P + numOf m) / P = (b.toNat : Int) := by
        rw [Int.add_comm, Int.add_mul_ediv_right _ _ (by omega), Int.ediv_eq_zero_of_lt b2.1 b2.2, Int.zero_add]
      rw [← e1, ← e2, e]
    have hn : numOf l = numOf m := by rw [hab] at e; omega
    have hab' : a = b := UInt8.toNat_inj.1 (by omega)
    rw [hab', numOf_inj l m h' hn]
theorem numOf_putBig (v : Int) (n : Nat) (h1 : 1 ≤ n) (h8 : n ≤ 8) : numOf (putBig v (n : Int)) = v % 256 ^ n := by
  rw [putBig_rev, putLittle, if_pos (by omega), Int.toNat_natCast, little_num]
theorem putBig_numOf (l : List UInt8) (h1 : 1 ≤ l.length) (h8 : l.length ≤ 8) : putBig (numOf l) (l.length : Int) = l := by
  apply numOf_inj
  · rw [putBig_len _ _ (by omega), Int.toNat_natCast]
  · rw [numOf_putBig _ _ h1 h8]
    have := numOf_bd l
    exact Int.emod_eq_of_lt this.1 this.2

/-- Operations' classes and names. -/
def classN (op : Int) : Int := if op = 1 ∨ op = 10 ∨ op = 11 then 1 else if 2 ≤ op ∧ op ≤ 9 then 2 else if op = 12 ∨ op = 13 then 3 else 0
def opNameL : List ByteArray := [⟨#[]⟩, ⟨#[103, 101, 116]⟩, ⟨#[115, 101, 116]⟩, ⟨#[97, 100, 100]⟩, ⟨#[114, 101, 112, 108, 97, 99, 101]⟩, ⟨#[100, 101, 108]⟩, ⟨#[99, 97, 115]⟩, ⟨#[105, 110, 99, 114]⟩, ⟨#[97, 112, 112, 101, 110, 100]⟩, ⟨#[116, 111, 117, 99, 104]⟩, ⟨#[116, 116, 108]⟩, ⟨#[115, 99, 97, 110]⟩, ⟨#[102, 108, 117, 115, 104]⟩, ⟨#[115, 116, 97, 116, 115]⟩]
def opNameS (op : Int) : ByteArray := if 0 ≤ op ∧ op ≤ 13 then opNameL.getD op.toNat ⟨#[]⟩ else ⟨#[]⟩

structure Cmd where
  op : Int
  key : ByteArray
  value : ByteArray
  num : Int
  ver : Int
def Cmd.zero : Cmd := ⟨0, ⟨#[]⟩, ⟨#[]⟩, 0, 0⟩
def Cmd.v (c : Cmd) : Value := .agg #[.int .i64 c.op, .string c.key, .string c.value, .int .i64 c.num, .int .i64 c.ver]
/-- What a variable of its type may hold. -/
def Cmd.Fits (c : Cmd) : Prop := (-9223372036854775808 ≤ c.op ∧ c.op ≤ 9223372036854775807) ∧ c.key.size ≤ 1000000 ∧ c.value.size ≤ 1000000 ∧ (-9223372036854775808 ≤ c.num ∧ c.num ≤ 9223372036854775807) ∧ (-9223372036854775808 ≤ c.ver ∧ c.ver ≤ 9223372036854775807)
abbrev keyOk (op : Int) (n : Nat) : Prop := if op = 11 then True else if op = 12 ∨ op = 13 then n = 0 else 1 ≤ n
abbrev Cmd.Right (c : Cmd) : Prop := (1 ≤ c.op ∧ c.op ≤ 13) ∧ keyOk c.op c.key.size ∧ c.key.size ≤ 60 ∧ c.value.size ≤ 500 ∧ (-1000000000000 ≤ c.num ∧ c.num ≤ 1000000000000) ∧ (0 ≤ c.ver ∧ c.ver ≤ 1000000000000)
def Cmd.right (c : Cmd) : Bool := decide c.Right
def Cmd.bytes (c : Cmd) : List UInt8 := byteOf c.op 0 :: (putBig (c.num + 1000000000000) 8 ++ (putBig c.ver 8 ++ (byteOf (c.key.size : Int) 0 :: (c.key.data.toList ++ c.value.data.toList))))
def Cmd.put (c : Cmd) : ByteArray := if c.Right then str c.bytes else ⟨#[]⟩
theorem Cmd.put_yes {c : Cmd} (h : c.Right) : c.put = str c.bytes := by unfold Cmd.put; rw [if_pos h]
theorem Cmd.put_no {c : Cmd} (h : ¬ c.Right) : c.put = ⟨#[]⟩ := by unfold Cmd.put; rw [if_neg h]

theorem byteOf_small (n : Nat) (h : n < 256) : (byteOf (n : Int) 0).toNat = n := by
  have := byteOf_val (n : Int) 0
  simp at this
  omega
theorem byteOf_back (x : UInt8) : byteOf (x.toNat : Int) 0 = x := UInt8.toNat_inj.1 (byteOf_small x.toNat x.toNat_lt)
theorem putBig8_len (v : Int) : (putBig v 8).length = 8 := putBig_len v 8 (by decide)
theorem putBig8_num (v : Int) (h0 : 0 ≤ v) (h1 : v < 18446744073709551616) : numOf (putBig v 8) = v := by
  have := numOf_putBig v 8 (by decide) (by decide)
  rw [show ((8 : Nat) : Int) = 8 from rfl] at this
  rw [this]
  exact Int.emod_eq_of_lt h0 (by simpa using h1)
theorem Cmd.bytes_len (c : Cmd) : c.bytes.length = 18 + c.key.size + c.value.size := by
  unfold Cmd.bytes
  simp only [List.length_cons, List.length_append, putBig8_len, Array.length_toList, ByteArray.size_data]
  omega
theorem Cmd.put_size {c : Cmd} (h : c.Right) : c.put.size = 18 + c.key.size + c.value.size := by rw [Cmd.put_yes h, str_size, Cmd.bytes_len]

/-- The command that bytes would be. -/
def cmdAt (l : List UInt8) : Cmd :=
  let k := (l.getD 17 0).toNat
  ⟨((l.getD 0 0).toNat : Int), str ((l.drop 18).take k), str (l.drop (18 + k)), numOf ((l.drop 1).take 8) - 1000000000000, numOf ((l.drop 9).take 8)⟩
theorem Cmd.drop17 (c : Cmd) : c.bytes.drop 17 = byteOf (c.key.size : Int) 0 :: (c.key.data.toList ++ c.value.data.toList) := by
  have l1 := putBig8_len (c.num + 1000000000000)
  have l2 := putBig8_len c.ver
  have d1 : c.bytes.drop 1 = putBig (c.num + 1000000000000) 8 ++ (putBig c.ver 8 ++ (byteOf (c.key.size : Int) 0 :: (c.key.data.toList ++ c.value.data.toList))) := rfl
  have d9 : c.bytes.drop 9 = putBig c.ver 8 ++ (byteOf (c.key.size : Int) 0 :: (c.key.data.toList ++ c.value.data.toList)) := by
    rw [show (9 : Nat) = 1 + 8 from rfl, ← List.drop_drop, d1, List.drop_left' l1]
  rw [show (17 : Nat) = 9 + 8 from rfl, ← List.drop_drop, d9, List.drop_left' l2]
theorem Cmd.at17 (c : Cmd) (h : c.key.size < 256) : (c.bytes.getD 17 0).toNat = c.key.size := by
  have e17 : c.bytes.getD 17 0 = byteOf (c.key.size : Int) 0 := by
    rw [List.getD_eq_getElem?_getD, ← List.head?_drop, Cmd.drop17]; rfl
  rw [e17, byteOf_small _ h]
theorem cmdAt_bytes (c : Cmd) (h : c.Right) : cmdAt c.bytes = c := by
  obtain ⟨h1, h2, h3, h4, h5, h6⟩ := h
  have e1 : c.bytes.getD 0 0 = byteOf c.op 0 := rfl
  have l1 := putBig8_len (c.num + 1000000000000)
  have l2 := putBig8_len c.ver
  have d1 : c.bytes.drop 1 = putBig (c.num + 1000000000000) 8 ++ (putBig c.ver 8 ++ (byteOf (c.key.size : Int) 0 :: (c.key.data.toList ++ c.value.data.toList))) := rfl
  have d9 : c.bytes.drop 9 = putBig c.ver 8 ++ (byteOf (c.key.size : Int) 0 :: (c.key.data.toList ++ c.value.data.toList)) := by
    rw [show (9 : Nat) = 1 + 8 from rfl, ← List.drop_drop, d1, List.drop_left' l1]
  have d17 : c.bytes.drop 17 = byteOf (c.key.size : Int) 0 :: (c.key.data.toList ++ c.value.data.toList) := by
    rw [show (17 : Nat) = 9 + 8 from rfl, ← List.drop_drop, d9, List.drop_left' l2]
  have e17 : c.bytes.getD 17 0 = byteOf (c.key.size : Int) 0 := by
    rw [List.getD_eq_getElem?_getD, ← List.head?_drop, d17]; rfl
  have k17 : (c.bytes.getD 17 0).toNat = c.key.size := by rw [e17, byteOf_small _ (by omega)]
  have d18 : c.bytes.drop 18 = c.key.data.toList ++ c.value.data.toList := by
    rw [show (18 : Nat) = 17 + 1 from rfl, ← List.drop_drop, d17]; rfl
  have lk : c.key.data.toList.length = c.key.size := by simp
  unfold cmdAt
  simp only [k17]
  rw [e1, d1, d9, ← List.drop_drop, d18, List.take_left' l1, List.take_left' l2, List.take_left' lk, List.drop_left' lk, str_back, str_back, putBig8_num _ (by omega) (by omega), putBig8_num _ (by omega) (by omega)]
  obtain ⟨n, hn⟩ : ∃ n : Nat, c.op = (n : Int) := Int.eq_ofNat_of_zero_le (by omega)
  rw [hn, byteOf_small n (by omega), ← hn]
  have : c.num + 1000000000000 - 1000000000000 = c.num := by omega
  rw [this]
theorem cmdAt_back (l : List UInt8) (h18 : 18 + (l.getD 17 0).toNat ≤ l.length) : (cmdAt l).bytes = l := by
  have hk : (str ((l.drop 18).take (l.getD 17 0).toNat)).size = (l.getD 17 0).toNat := by rw [str_size, List.length_take, List.length_drop]; omega
  unfold cmdAt Cmd.bytes
  simp only [hk]
  have h0 : byteOf ((l.getD 0 0).toNat : Int) 0 = l.getD 0 0 := byteOf_back _
  have h17 : byteOf ((l.getD 17 0).toNat : Int) 0 = l.getD 17 0 := byteOf_back _
  have q1 : ((l.drop 1).take 8).length = 8 := by rw [List.length_take, List.length_drop]; omega
  have q9 : ((l.drop 9).take 8).length = 8 := by rw [List.length_take, List.length_drop]; omega
  have p1 := putBig_numOf ((l.drop 1).take 8) (by omega) (by omega)
  have p9 := putBig_numOf ((l.drop 9).take 8) (by omega) (by omega)
  rw [q1] at p1
  rw [q9] at p9
  have e : numOf ((l.drop 1).take 8) - 1000000000000 + 1000000000000 = numOf ((l.drop 1).take 8) := by omega
  rw [h0, h17, e, show ((8 : Int)) = ((8 : Nat) : Int) from rfl, p1, p9, str_data, str_data]
  have t0 : l = l.getD 0 0 :: l.drop 1 := by
    match l, h18 with
    | [], h => simp at h
    | a :: l, _ => rfl
  have t17 : l.drop 17 = l.getD 17 0 :: l.drop 18 := by
    rw [List.drop_eq_getElem_cons (by omega), List.getD_eq_getElem?_getD, List.getElem?_eq_getElem (by omega)]; rfl
  rw [show l.drop (18 + (l.getD 17 0).toNat) = (l.drop 18).drop (l.getD 17 0).toNat by rw [List.drop_drop], List.take_append_drop, ← t17, show l.drop 17 = (l.drop 9).drop 8 by rw [List.drop_drop], List.take_append_drop, show l.drop 9 = (l.drop 1).drop 8 by rw [List.drop_drop], List.take_append_drop]
  exact t0.symm
theorem Cmd.put_inj {c d : Cmd} (hc : c.Right) (hd : d.Right) (h : c.put = d.put) : c = d := by
  rw [Cmd.put_yes hc, Cmd.put_yes hd] at h
  have := congrArg (fun s : ByteArray => s.data.toList) h
  simp only [str_data] at this
  rw [← cmdAt_bytes c hc, ← cmdAt_bytes d hd, this]

/-- Whether bytes are a command's, and which. -/
abbrev isCmd (b : ByteArray) : Prop := 18 + (b.data.toList.getD 17 0).toNat ≤ b.size ∧ (cmdAt b.data.toList).Right
def getOk (b : ByteArray) : Bool := decide (isCmd b)
def getC (b : ByteArray) : Cmd := if isCmd b then cmdAt b.data.toList else Cmd.zero
theorem get_no {b : ByteArray} (h : ¬ isCmd b) : getC b = Cmd.zero ∧ getOk b = false := ⟨by unfold getC; rw [if_neg h], decide_eq_false h⟩
theorem get_yes {b : ByteArray} (h : isCmd b) : getC b = cmdAt b.data.toList ∧ getOk b = true := ⟨by unfold getC; rw [if_pos h], decide_eq_true h⟩
theorem get_put {c : Cmd} (h : c.Right) : isCmd c.put ∧ getC c.put = c ∧ getOk c.put = true := by
  have hb : c.put.data.toList = c.bytes := by rw [Cmd.put_yes h, str_data]
  have hc := cmdAt_bytes c h
  have hk : (c.bytes.getD 17 0).toNat = c.key.size := c.at17 (by have := h.2.2.1; omega)
  have hi : isCmd c.put := by
    refine ⟨?_, ?_⟩
    · rw [hb, hk, Cmd.put_size h]; omega
    · rw [hb, hc]; exact h
  refine ⟨hi, ?_, decide_eq_true hi⟩
  unfold getC
  rw [if_pos hi, hb, hc]
theorem put_get {b : ByteArray} (h : isCmd b) : (getC b).Right ∧ (getC b).put = b := by
  have e : getC b = cmdAt b.data.toList := by unfold getC; rw [if_pos h]
  have hr : (getC b).Right := by rw [e]; exact h.2
  refine ⟨hr, ?_⟩
  rw [Cmd.put_yes hr, e, cmdAt_back _ (by simpa using h.1), str_back]

end Go.Proofs.YtjemklgfenciaaaGreat
