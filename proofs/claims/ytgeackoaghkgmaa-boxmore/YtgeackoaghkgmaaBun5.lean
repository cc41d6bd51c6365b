/-
  Parts of this proof, one behind the other: Oct2, Oct4, Fill0, Oct3, Oct5.
-/
import Derived.Test.YtgeackoaghkgmaaBun2
import Derived.Laws.IdiomStrings

/-
  The contracts of package octet's PutBig and PutLittle, and of the reference's.
-/
namespace Go.Proofs.Ytgeackoaghkgmaa
open Go.RowKit
set_option linter.unusedVariables false
set_option maxRecDepth 100000

theorem info8 : (Try.prog.info? 5).map (fun i => (i.zero, i.size, i.bytes)) = some (some (.int .u8 0), 1, 1) := by kernel_rfl

theorem cells8_len (l : List UInt8) : (cells8 l).length = l.length := by simp [cells8]
theorem cells8_at (l : List UInt8) (j : Nat) (h : j < l.length) : (cells8 l)[j]? = some (.int .u8 (l[j].toNat : Int)) := by
  simp [cells8, h, cell8]
theorem cells8_set (l : List UInt8) (j : Nat) (b : UInt8) : (cells8 l).set j (cell8 b) = cells8 (l.set j b) := by
  simp [cells8, List.map_set]
theorem made8 (n : Nat) : (madeCells #[.int .u8 0] n).toList = cells8 (List.replicate n 0) := by
  rw [toList_madeCells_one]
  simp [cells8, cell8]

/-- A row of bytes that the call made, as a string. -/
theorem own_string {wr : World} {base g n cap : Nat} {l : List UInt8} (h : wr.ownsRow base 5 1 (.slice (some ⟨g, 0, none⟩) n cap) n (cells8 l)) :
    (convert 27 9 (.slice (some ⟨g, 0, none⟩) n cap)).run Try.prog wr = .ok (.string (str l)) wr := by
  have hl : n = l.length := by have := h.1; rw [cells8_len] at this; omega
  subst hl
  refine run_convert_bytes_back wr _ _ 5 ⟨g, 0, none⟩ cap l Try.underlying27 Try.underlying5 Try.underlying9 ?_
  intro j hj
  have := h.cellAt j (by omega)
  rw [cells8_at l j hj] at this
  rw [show (⟨g, 0, none⟩ : Addr).add j = ⟨g, j, none⟩ from by simp [Addr.add]; exact fun h => h.symm]; exact this

/-- A byte stored into such a row. -/
theorem own_store {w wr : World} {base g n cap : Nat} {l : List UInt8} (h : wr.ownsRow base 5 1 (.slice (some ⟨g, 0, none⟩) n cap) n (cells8 l)) (hb : Below base w wr) (hg : base ≤ g) (j : Nat) (b : UInt8) :
    (wr.setCell ⟨g, j, none⟩ (.int .u8 (b.toNat : Int))).ownsRow base 5 1 (.slice (some ⟨g, 0, none⟩) n cap) n (cells8 (l.set j b)) ∧ Below base w (wr.setCell ⟨g, j, none⟩ (.int .u8 (b.toNat : Int))) := by
  have := (h.stored j (cell8 b)).1
  rw [cells8_set] at this
  exact ⟨this, hb.setCell hg _⟩

theorem set_back {l : List UInt8} {n k : Nat} {f : Nat → UInt8} (hl : l.length = n) (h : ∀ j, j < k → l[n - 1 - j]? = some (f j)) (hk : k < n) :
    ∀ j, j < k + 1 → (l.set (n - 1 - k) (f k))[n - 1 - j]? = some (f j) := by
  intro j hj
  rw [List.getElem?_set]
  by_cases e : j = k
  · subst e; rw [if_pos rfl, if_pos (by omega)]
  · rw [if_neg (by omega)]; exact h j (by omega)

theorem big_of {l : List UInt8} {n : Nat} {f : Nat → UInt8} (hl : l.length = n) (h : ∀ j, j < n → l[n - 1 - j]? = some (f j)) : l = (List.range n).map (fun j => f (n - 1 - j)) := by
  refine list_eq_map hl fun j hj => ?_
  have := h (n - 1 - j) (by omega)
  rwa [show n - 1 - (n - 1 - j) = j from by omega] at this

theorem putBigS_no (v n : Int) (h : ¬ (1 ≤ n ∧ n ≤ 8)) : putBigS v n = ⟨#[]⟩ := by
  unfold putBigS putBig; rw [if_neg h]; rfl
theorem putLittleS_no (v n : Int) (h : ¬ (1 ≤ n ∧ n ≤ 8)) : putLittleS v n = ⟨#[]⟩ := by
  unfold putLittleS putLittle; rw [if_neg h]; rfl
theorem ret_str {a b : ByteArray} (h : a = b) : Ending.returned (.string a) = .returned (.string b) := by rw [h]

theorem set_fore {l : List UInt8} {n k : Nat} {f : Nat → UInt8} (hl : l.length = n) (h : ∀ j, j < k → l[j]? = some (f j)) (hk : k < n) :
    ∀ j, j < k + 1 → (l.set k (f k))[j]? = some (f j) := by
  intro j hj
  rw [List.getElem?_set]
  by_cases e : k = j
  · subst e; rw [if_pos rfl, if_pos (by omega)]
  · rw [if_neg e]; exact h j (by omega)

set_option maxHeartbeats 400000 in
theorem octet_putLittle_yes (v : Int) (n : Nat) (w : World) (h0 : 0 ≤ v) (h1 : v < 18446744073709551616) (n1 : 1 ≤ n) (n8 : n ≤ 8) :
    Calls Try.prog 49 #[.int .u64 v, .int .i64 n] w fun e w' => e = .returned (.string (putLittleS v n)) ∧ Below w.heap.size w w' := by
  have hw : decide (1 ≤ (n : Int) ∧ (n : Int) ≤ 8) = true := by simp; omega
  obtain ⟨i0, hi, hz0, hz1, hz2⟩ := info_parts info8
  go_enter Try.func49, Try.ntmps49
  go_wp2_with (first | (go_at_call 65; refine (octet_isWidth _ _).mono ?_; rintro e w' ⟨rfl, rfl⟩; rw [hw]) | (at_make; refine wpList_make_full _ rfl _ _ 27 rfl w.heap.size 5 i0 (.int .u8 0) 1 Try.underlying27 hi hz0 hz1 .i64 .i64 n n n rfl rfl rfl rfl (by rw [hz2]; omega) (by unfold maxLen; omega) (Nat.le_refl _) ?_))
  intro w1 hown hgrow
  rw [made8] at hown
  have hb1 : Below w.heap.size w w1 := (Below.refl _ w).grown hgrow (Nat.le_refl _) (by intro k hk; cases hk)
  clear hgrow
  go_wp2
  go_loopw [14] (fun i wr => ∃ (k : Nat) (l : List UInt8), k ≤ n ∧ i = .int .i64 k ∧ l.length = n ∧ (∀ j, j < k → l[j]? = some (byteOf v j)) ∧ wr.ownsRow w.heap.size 5 1 (.slice (some ⟨w.heap.size, 0, none⟩) n n) n (cells8 l) ∧ Below w.heap.size w wr) (fun i _ => n - (intOf i).toNat)
  case atStart => exact ⟨0, List.replicate n 0, Nat.zero_le _, rfl, by simp, by intro j hj; omega, hown, hb1⟩
  case round =>
    clear hown hb1
    obtain ⟨k, l, hk, rfl, hl, hbs, hown, hbel⟩ := hrel
    by_cases hlt : k < n
    · have hcell := hown.cellAt k (by omega)
      have hfz := hown.frozenAt k
      rw [cells8_at l k (by omega)] at hcell
      go_wp2_with (first | (go_at_call 66; refine (octet_byteAt _ _ _ h0 h1 (by omega) (by omega)).mono ?_; rintro e w' ⟨rfl, rfl⟩))
      go_roundw
      case rel =>
        have hs := own_store hown hbel (Nat.le_refl _) k (byteOf v k)
        exact ⟨k + 1, l.set k (byteOf v k), by omega, by go_num, by simpa using hl, set_fore hl hbs hlt, hs.1, hs.2⟩
      case measure => simp [intOf]; omega
    · have hkn : k = n := by omega
      subst hkn
      have hconv := own_string hown
      go_wp2
      go_ret
      refine ⟨?_, hbel⟩
      rw [show putLittleS v k = str l from by unfold putLittleS putLittle; rw [if_pos (by omega)]; congr 1; exact (list_eq_map hl hbs).symm]
      rfl

theorem octet_putLittle (v n : Int) (w : World) (h0 : 0 ≤ v) (h1 : v < 18446744073709551616) :
    Calls Try.prog 49 #[.int .u64 v, .int .i64 n] w fun e w' => e = .returned (.string (putLittleS v n)) ∧ Below w.heap.size w w' := by
  by_cases h : 1 ≤ n ∧ n ≤ 8
  · obtain ⟨m, rfl⟩ := Int.eq_ofNat_of_zero_le (show 0 ≤ n from by omega)
    exact octet_putLittle_yes v m w h0 h1 (by omega) (by omega)
  · have hw : decide (1 ≤ n ∧ n ≤ 8) = false := by simp; omega
    have hno : Hid (putLittleS v n = ⟨#[]⟩) := putLittleS_no v n h
    clear h
    go_enter Try.func49, Try.ntmps49
    go_wp2_with (first | (go_at_call 65; refine (octet_isWidth _ _).mono ?_; rintro e w' ⟨rfl, rfl⟩; rw [hw]))
    go_ret
    exact ⟨ret_str hno.out.symm, Below.refl _ _⟩

end Go.Proofs.Ytgeackoaghkgmaa

/-
  The contracts of Big and Little, package octet's and the reference's.
-/
namespace Go.Proofs.Ytgeackoaghkgmaa
open Go.RowKit
set_option linter.unusedVariables false
set_option maxRecDepth 100000

/-- The number that bytes are, the highest first. -/
def numOf (l : List UInt8) : Int := l.foldl (fun v b => v * 256 + (b.toNat : Int)) 0
def bigS (s : ByteArray) : Int := numOf (s.data.toList.drop (s.size - 8))
def littleS (s : ByteArray) : Int := numOf (s.data.toList.take 8).reverse

theorem numOf_snoc (l : List UInt8) (b : UInt8) : numOf (l ++ [b]) = numOf l * 256 + (b.toNat : Int) := by simp [numOf]
theorem numOf_from (l : List UInt8) : ∀ v : Int, l.foldl (fun v b => v * 256 + (b.toNat : Int)) v = v * 256 ^ l.length + numOf l := by
  induction l with
  | nil => intro v; simp [numOf]
  | cons b l ih =>
    intro v
    have h := ih ((0 : Int) * 256 + (b.toNat : Int))
    simp only [numOf, List.foldl_cons, List.length_cons] at h ⊢
    rw [ih, h, Int.pow_succ, Int.add_mul, Int.add_mul, Int.zero_mul, Int.zero_mul, Int.zero_add, Int.mul_assoc, Int.mul_comm 256, Int.add_assoc]
    rfl
theorem numOf_cons (b : UInt8) (l : List UInt8) : numOf (b :: l) = (b.toNat : Int) * 256 ^ l.length + numOf l := by
  rw [show numOf (b :: l) = l.foldl (fun v b => v * 256 + (b.toNat : Int)) ((0 : Int) * 256 + (b.toNat : Int)) from rfl, numOf_from]
  simp
theorem numOf_append (l m : List UInt8) : numOf (l ++ m) = numOf l * 256 ^ m.length + numOf m := by
  rw [show numOf (l ++ m) = m.foldl (fun v b => v * 256 + (b.toNat : Int)) (numOf l) from by unfold numOf; rw [List.foldl_append], numOf_from]
theorem numOf_bd (l : List UInt8) : 0 ≤ numOf l ∧ numOf l < 256 ^ l.length := by
  induction l with
  | nil => simp [numOf]
  | cons b l ih =>
    rw [numOf_cons, List.length_cons, Int.pow_succ]
    have h1 := b.toNat_lt
    have h2 : (b.toNat : Int) * 256 ^ l.length ≤ 255 * 256 ^ l.length := Int.mul_le_mul_of_nonneg_right (by omega) (Int.pow_nonneg (by decide))
    have h3 : 0 ≤ (b.toNat : Int) * 256 ^ l.length := Int.mul_nonneg (by omega) (Int.pow_nonneg (by decide))
    omega
theorem pow256_le (a b : Nat) (h : a ≤ b) : (256 : Int) ^ a ≤ 256 ^ b := by
  have h2 : (256 : Nat) ^ a ≤ 256 ^ b := Nat.pow_le_pow_right (by decide) h
  have e : ∀ n : Nat, ((256 ^ n : Nat) : Int) = (256 : Int) ^ n := fun n => by rw [Int.natCast_pow]; rfl
  rw [← e, ← e]
  exact Int.ofNat_le.2 h2
theorem numOf_bd7 (l : List UInt8) (h : l.length ≤ 7) : 0 ≤ numOf l ∧ numOf l ≤ 72057594037927935 := by
  have := numOf_bd l
  have h2 : (256 : Int) ^ l.length ≤ 256 ^ 7 := pow256_le _ _ h
  have h3 : (256 : Int) ^ 7 = 72057594037927936 := by decide
  omega
theorem numOf_bd8 (l : List UInt8) (h : l.length ≤ 8) : 0 ≤ numOf l ∧ numOf l < 18446744073709551616 := by
  have := numOf_bd l
  have h2 : (256 : Int) ^ l.length ≤ 256 ^ 8 := pow256_le _ _ h
  have h3 : (256 : Int) ^ 8 = 18446744073709551616 := by decide
  omega
theorem bigS_bd (s : ByteArray) : 0 ≤ bigS s ∧ bigS s < 18446744073709551616 := numOf_bd8 _ (by simp; omega)
theorem littleS_bd (s : ByteArray) : 0 ≤ littleS s ∧ littleS s < 18446744073709551616 := numOf_bd8 _ (by simp; omega)

theorem take_snoc (s : ByteArray) (k : Nat) (h : k < s.size) : s.data.toList.take (k + 1) = s.data.toList.take k ++ [s[k]] := by
  rw [List.take_succ_eq_append_getElem (by simpa using h)]; rfl

theorem or256 (V : Int) (b : UInt8) (h0 : 0 ≤ V) (h1 : V ≤ 72057594037927935) : bits BinOp.or IntKind.u64 (V * 256) (b.toNat : Int) = V * 256 + (b.toNat : Int) := by
  have := b.toNat_lt
  rw [u64_or _ _ (by omega) (by omega) (by omega) (by omega), nat_join 8 _ _ (by omega) (by omega)]
  omega

theorem drop_cons (s : ByteArray) (r : Nat) (h : r < s.size) : s.data.toList.drop r = s[r] :: s.data.toList.drop (r + 1) := by
  rw [List.drop_eq_getElem_cons (by simpa using h)]; rfl

theorem rev_snoc (s : ByteArray) (r : Nat) (h : r < s.size) : numOf (s.data.toList.drop r).reverse = numOf (s.data.toList.drop (r + 1)).reverse * 256 + (s[r].toNat : Int) := by
  rw [drop_cons s r h, List.reverse_cons, numOf_snoc]

set_option maxRecDepth 100000 in
theorem octet_little (s : ByteArray) (w : World) (hs : s.size ≤ maxLen) :
    Calls Try.prog 67 #[.string s] w fun e w' => e = .returned (.int .u64 (littleS s)) ∧ w = w' := by
  unfold maxLen at hs
  by_cases h : 8 < s.size
  · have hd : decide (8 < (s.size : Int)) = true := by simp; omega
    go_enter Try.func67, Try.ntmps67
    go_wp2
    have hts : (s.extract 0 8).size ≤ 8 := by simp; omega
    have hmin : min 8 s.size = (s.extract 0 8).size := by simp
    have HT : Hid (littleS s = numOf (s.extract 0 8).data.toList.reverse) := by
      unfold littleS
      rw [ByteArray.data_extract, Array.toList_extract]
      rfl
    rw [hmin]
    clear hmin
    generalize s.extract 0 8 = t at *
    clear hd
    go_loop [3, 4] (fun v i => ∃ (r : Nat) (V : Int), r ≤ t.size ∧ i = .int .i64 ((r : Int) - 1) ∧ v = .int .u64 V ∧ Hid (V = numOf (t.data.toList.drop r).reverse)) (fun _ i => (intOf i + 1).toNat)
    case atStart => exact ⟨t.size, 0, Nat.le_refl _, rfl, rfl, by rw [List.drop_of_length_le (by simp)]; rfl⟩
    case round =>
      obtain ⟨r, V, hk, rfl, rfl, HV⟩ := hrel
      by_cases hlt : 0 < r
      · obtain ⟨q, rfl⟩ : ∃ q, r = q + 1 := ⟨r - 1, by omega⟩
        have hq : q < t.size := by omega
        have hb : 0 ≤ V ∧ V ≤ 72057594037927935 := by rw [HV.out]; exact numOf_bd7 _ (by simp; omega)
        have hor := or256 V t[q] hb.1 hb.2
        have hb0 := hb.1
        have hb1 := hb.2
        clear hb
        have hby : (t[q].toNat : Int) < 256 := by have := t[q].toNat_lt; omega
        have HN : Hid (V * 256 + (t[q].toNat : Int) = numOf (t.data.toList.drop q).reverse) := by
          show _ = _; rw [rev_snoc t q hq, HV.out]
        have hcast : ((q + 1 : Nat) : Int) - 1 = (q : Int) := by omega
        rw [hcast]
        go_wp2
        go_round
        case rel => exact ⟨q, V * 256 + (t[q].toNat : Int), by omega, by go_num, rfl, HN⟩
        case measure => simp [intOf]
      · obtain rfl : r = 0 := by omega
        go_wp2
        go_ret
        exact ⟨ret_int (by rw [HT.out, HV.out]; rfl), rfl⟩
  · have hd : decide (8 < (s.size : Int)) = false := by simp; omega
    have hts : s.size ≤ 8 := by omega
    have HT : Hid (littleS s = numOf s.data.toList.reverse) := by
      unfold littleS
      rw [List.take_of_length_le (by simpa using hts)]; rfl
    clear h
    generalize s = t at *
    go_enter Try.func67, Try.ntmps67
    go_wp2
    clear hd
    go_loop [3, 4] (fun v i => ∃ (r : Nat) (V : Int), r ≤ t.size ∧ i = .int .i64 ((r : Int) - 1) ∧ v = .int .u64 V ∧ Hid (V = numOf (t.data.toList.drop r).reverse)) (fun _ i => (intOf i + 1).toNat)
    case atStart => exact ⟨t.size, 0, Nat.le_refl _, rfl, rfl, by rw [List.drop_of_length_le (by simp)]; rfl⟩
    case round =>
      obtain ⟨r, V, hk, rfl, rfl, HV⟩ := hrel
      by_cases hlt : 0 < r
      · obtain ⟨q, rfl⟩ : ∃ q, r = q + 1 := ⟨r - 1, by omega⟩
        have hq : q < t.size := by omega
        have hb : 0 ≤ V ∧ V ≤ 72057594037927935 := by rw [HV.out]; exact numOf_bd7 _ (by simp; omega)
        have hor := or256 V t[q] hb.1 hb.2
        have hb0 := hb.1
        have hb1 := hb.2
        clear hb
        have hby : (t[q].toNat : Int) < 256 := by have := t[q].toNat_lt; omega
        have HN : Hid (V * 256 + (t[q].toNat : Int) = numOf (t.data.toList.drop q).reverse) := by
          show _ = _; rw [rev_snoc t q hq, HV.out]
        have hcast : ((q + 1 : Nat) : Int) - 1 = (q : Int) := by omega
        rw [hcast]
        go_wp2
        go_round
        case rel => exact ⟨q, V * 256 + (t[q].toNat : Int), by omega, by go_num, rfl, HN⟩
        case measure => simp [intOf]
      · obtain rfl : r = 0 := by omega
        go_wp2
        go_ret
        exact ⟨ret_int (by rw [HT.out, HV.out]; rfl), rfl⟩

end Go.Proofs.Ytgeackoaghkgmaa

/-
  The laws' own helper 'Fill' of chapter 5: a text of just n bytes.
-/
namespace Go.Proofs.Ytgeackoaghkgmaa
open Go.RowKit
set_option linter.unusedVariables false
set_option maxRecDepth 100000

/-- A text of just n bytes: its first ones, zeros behind. -/
def fill5L (l : List UInt8) (n : Nat) : List UInt8 := (l ++ List.replicate (n - l.length) 0).take n
def fillS (s : ByteArray) (n : Nat) : ByteArray := str (fill5L s.data.toList n)
theorem fillS_size (s : ByteArray) (n : Nat) : (fillS s n).size = n := by
  rw [fillS, str_size]; unfold fill5L; simp; omega
theorem fillS_of (t s : ByteArray) (n k : Nat) (ht : t.data.toList = s.data.toList ++ List.replicate k 0) (h : n ≤ t.size) (hk : k = 0 ∨ t.size ≤ n) : t.extract 0 n = fillS s n := by
  unfold fillS str fill5L
  apply ByteArray.ext
  rw [ByteArray.data_extract]
  apply Array.toList_inj.1
  rw [Array.toList_extract]
  have hl : t.size = s.size + k := by
    have := congrArg List.length ht
    simpa using this
  rcases hk with rfl | hk
  · simp only [List.replicate_zero, List.append_nil] at ht
    rw [ht]
    have : n - s.data.toList.length = 0 := by simp; omega
    rw [this]
    simp
  · rw [ht]
    have : n - s.data.toList.length = k := by simp; omega
    rw [this]
    simp
theorem zero_snoc (a : ByteArray) : (a ++ ⟨#[0]⟩).data.toList = a.data.toList ++ [0] := by simp

set_option maxHeartbeats 1000000 in
theorem law5_fill (s : ByteArray) (n : Nat) (w : World) (hs : s.size ≤ 9223372036854775807) (hn : n ≤ 1000) :
    Calls Try.prog 10 #[.string s, .int .i64 n] w fun e w' => e = .returned (.string (fillS s n)) ∧ w = w' := by
  go_enter Try.func10, Try.ntmps10
  go_wp2_with fail
  go_loopw [0] (fun v wr => ∃ (k : Nat) (t : ByteArray), v = .string t ∧ t.data.toList = s.data.toList ++ List.replicate k 0 ∧ (k = 0 ∨ t.size ≤ n) ∧ wr = w) (fun v _ => match v with | .string t => n - t.size | _ => 0)
  case atStart => exact ⟨0, s, rfl, by simp, Or.inl rfl, rfl⟩
  case round =>
    obtain ⟨k, t, rfl, ht, hk, rfl⟩ := hrel
    by_cases hlt : t.size < n
    · have hcmp : (t.size : Int) < (n : Int) := by omega
      have hln : ¬ (9223372036854775807 < t.size + 1) := by omega
      have h2 : (t ++ ⟨#[0]⟩).data.toList = s.data.toList ++ List.replicate (k + 1) 0 := by
        rw [zero_snoc, ht, List.append_assoc]
        congr 1
        exact (List.replicate_succ' (n := k) (a := (0 : UInt8))).symm
      have h3 : (t ++ ⟨#[0]⟩).size = t.size + 1 := by simp; rfl
      clear ht hk
      generalize hT : t ++ ⟨#[0]⟩ = T at *
      go_wp2
      go_roundw
      case rel => exact ⟨k + 1, T, rfl, h2, Or.inr (by omega), by first | rfl | trivial⟩
      case measure => simp [h3]; omega
    · have hcmp : ¬ (t.size : Int) < (n : Int) := by omega
      have hle : (n : Int) ≤ (t.size : Int) := by omega
      have HF : Hid (t.extract 0 n = fillS s n) := fillS_of t s n k ht (by omega) hk
      have hx : (t.extract 0 n) = t.extract 0 n := rfl
      go_wp2
      go_ret
      exact ⟨by simp [HF.out], rfl⟩

theorem law5_fill32 (s : ByteArray) (w : World) (hs : s.size ≤ 9223372036854775807) :
    Calls Try.prog 10 #[.string s, .int .i64 32] w fun e w' => e = .returned (.string (fillS s 32)) ∧ w = w' := law5_fill s 32 w hs (by decide)
theorem law5_fill12 (s : ByteArray) (w : World) (hs : s.size ≤ 9223372036854775807) :
    Calls Try.prog 10 #[.string s, .int .i64 12] w fun e w' => e = .returned (.string (fillS s 12)) ∧ w = w' := law5_fill s 12 w hs (by decide)

theorem law5_fill16 (s : ByteArray) (w : World) (hs : s.size ≤ 9223372036854775807) :
    Calls Try.prog 10 #[.string s, .int .i64 16] w fun e w' => e = .returned (.string (fillS s 16)) ∧ w = w' := law5_fill s 16 w hs (by decide)

end Go.Proofs.Ytgeackoaghkgmaa

/-
  The contracts of the reference's PutBig and PutLittle.
-/
namespace Go.Proofs.Ytgeackoaghkgmaa
open Go.RowKit
set_option linter.unusedVariables false
set_option maxRecDepth 100000

theorem and255 (V : Int) (h0 : 0 ≤ V) (h1 : V < 18446744073709551616) : bits BinOp.and IntKind.u64 V 255 = V % 256 := by
  rw [u64_and _ _ h0 h1 (by omega) (by omega), show (255 : Int).toNat = 255 from rfl, nat_mask8]
  omega

theorem down256 (v : Int) (m : Nat) : v / 2 ^ (8 * m) / 256 = v / 2 ^ (8 * (m + 1)) := by
  rw [Int.ediv_ediv_of_nonneg (Int.pow_nonneg (by decide)), show (8 * (m + 1)) = 8 * m + 8 from by omega, Int.pow_add]
  rfl

theorem low_byte {v V : Int} {m : Nat} (h : V = v / 2 ^ (8 * m)) : V % 256 = ((byteOf v m).toNat : Int) := by rw [byteOf_val, h]

set_option maxHeartbeats 400000 in
set_option maxRecDepth 100000 in
theorem ref_putLittle_yes (v : Int) (n : Nat) (w : World) (h0 : 0 ≤ v) (h1 : v < 18446744073709551616) (n1 : 1 ≤ n) (n8 : n ≤ 8) :
    Calls Try.prog 22 #[.int .u64 v, .int .i64 n] w fun e w' => e = .returned (.string (putLittleS v n)) ∧ Below w.heap.size w w' := by
  obtain ⟨i0, hi, hz0, hz1, hz2⟩ := info_parts info8
  go_enter Try.func22, Try.ntmps22
  go_wp2_with (first | (at_make; refine wpList_make_full _ rfl _ _ 27 rfl w.heap.size 5 i0 (.int .u8 0) 1 Try.underlying27 hi hz0 hz1 .i64 .i64 n n n rfl rfl rfl rfl (by rw [hz2]; omega) (by unfold maxLen; omega) (Nat.le_refl _) ?_))
  intro w1 hown hgrow
  rw [made8] at hown
  have hb1 : Below w.heap.size w w1 := (Below.refl _ w).grown hgrow (Nat.le_refl _) (by intro k hk; cases hk)
  clear hgrow
  go_wp2
  go_loopw [0, 6] (fun x i wr => ∃ (k : Nat) (V : Int) (l : List UInt8), k ≤ n ∧ 0 ≤ V ∧ V < 18446744073709551616 ∧ x = .int .u64 V ∧ Hid (V = v / 2 ^ (8 * k)) ∧ i = .int .i64 k ∧ l.length = n ∧ (∀ j, j < k → l[j]? = some (byteOf v j)) ∧ wr.ownsRow w.heap.size 5 1 (.slice (some ⟨w.heap.size, 0, none⟩) n n) n (cells8 l) ∧ Below w.heap.size w wr) (fun _ i _ => n - (intOf i).toNat)
  case atStart => exact ⟨0, v, List.replicate n 0, Nat.zero_le _, h0, h1, rfl, by simp [Hid], by go_num, by simp, by intro j hj; omega, hown, hb1⟩
  case round =>
    clear hown hb1
    obtain ⟨k, V, l, hk, hV0, hV1, rfl, hV, rfl, hl, hbs, hown, hbel⟩ := hrel
    by_cases hlt : k < n
    · have hcell := hown.cellAt k (by omega)
      have hfz := hown.frozenAt k
      rw [cells8_at l k (by omega)] at hcell
      have hand := and255 V hV0 hV1
      have hlow : V % 256 = ((byteOf v k).toNat : Int) := low_byte hV.out
      have hlt8 : ((byteOf v k).toNat : Int) < 256 := by have := (byteOf v k).toNat_lt; omega
      rw [hlow] at hand
      clear hlow
      go_wp2
      go_roundw
      case rel =>
        have hs := own_store hown hbel (Nat.le_refl _) k (byteOf v k)
        exact ⟨k + 1, V / 256, l.set k (byteOf v k), by omega, by omega, by omega, rfl, by rw [hV.out]; exact down256 v k, by go_num, by simpa using hl, set_fore hl hbs hlt, hs.1, hs.2⟩
      case measure => simp [intOf]; omega
    · have hkn : k = n := by omega
      subst hkn
      have hconv := own_string hown
      go_wp2
      go_ret
      refine ⟨?_, hbel⟩
      rw [show putLittleS v k = str l from by unfold putLittleS putLittle; rw [if_pos (by omega)]; congr 1; exact (list_eq_map hl hbs).symm]
      rfl

theorem ref_putLittle (v n : Int) (w : World) (h0 : 0 ≤ v) (h1 : v < 18446744073709551616) :
    Calls Try.prog 22 #[.int .u64 v, .int .i64 n] w fun e w' => e = .returned (.string (putLittleS v n)) ∧ Below w.heap.size w w' := by
  by_cases h : 1 ≤ n ∧ n ≤ 8
  · obtain ⟨m, rfl⟩ := Int.eq_ofNat_of_zero_le (show 0 ≤ n from by omega)
    exact ref_putLittle_yes v m w h0 h1 (by omega) (by omega)
  · have hno : Hid (putLittleS v n = ⟨#[]⟩) := putLittleS_no v n h
    rcases (show n < 1 ∨ 8 < n from by omega) with h' | h'
    all_goals
      clear h
      go_enter Try.func22, Try.ntmps22
      go_wp2
      go_ret
      exact ⟨ret_str hno.out.symm, Below.refl _ _⟩

end Go.Proofs.Ytgeackoaghkgmaa

/-
  The contracts of the reference's Big and Little.
-/
namespace Go.Proofs.Ytgeackoaghkgmaa
open Go.RowKit
set_option linter.unusedVariables false
set_option maxRecDepth 100000

theorem take_drop_snoc (s : ByteArray) (m k : Nat) (hm : m ≤ k) (h : k < s.size) : numOf ((s.data.toList.take (k + 1)).drop m) = numOf ((s.data.toList.take k).drop m) * 256 + (s[k].toNat : Int) := by
  rw [take_snoc s k h, List.drop_append_of_le_length (by simp; omega), numOf_snoc]

theorem take_rev_snoc (s : ByteArray) (m r : Nat) (hm : r < m) (h : r < s.size) : numOf ((s.data.toList.take m).drop r).reverse = numOf ((s.data.toList.take m).drop (r + 1)).reverse * 256 + (s[r].toNat : Int) := by
  rw [List.drop_eq_getElem_cons (by simp; omega), List.reverse_cons, numOf_snoc]
  simp
  rfl

set_option maxRecDepth 100000 in
theorem ref_little (s : ByteArray) (w : World) (hs : s.size ≤ maxLen) :
    Calls Try.prog 39 #[.string s] w fun e w' => e = .returned (.int .u64 (littleS s)) ∧ w = w' := by
  unfold maxLen at hs
  obtain ⟨m, hm⟩ : ∃ m : Nat, m = min s.size 8 := ⟨_, rfl⟩
  have HT : Hid (littleS s = numOf (s.data.toList.take m).reverse) := by
    unfold littleS; rw [hm]
    by_cases h : s.size ≤ 8
    · rw [Nat.min_eq_left h, List.take_of_length_le (by simp; omega), List.take_of_length_le (by simp)]; rfl
    · rw [Nat.min_eq_right (by omega)]; rfl
  have hm1 : m ≤ s.size := by omega
  have hm2 : m ≤ 8 := by omega
  have hmin : min (s.size : Int) 8 = (m : Int) := by omega
  clear hm
  go_enter Try.func39, Try.ntmps39
  go_wp2
  all_goals
    go_loop [3, 4] (fun v i => ∃ (r : Nat) (V : Int), r ≤ m ∧ i = .int .i64 ((r : Int) - 1) ∧ v = .int .u64 V ∧ Hid (V = numOf ((s.data.toList.take m).drop r).reverse)) (fun _ i => (intOf i + 1).toNat)
    case atStart => exact ⟨m, 0, Nat.le_refl _, by congr 1; omega, rfl, by show _ = _; rw [List.drop_of_length_le (by simp; omega)]; rfl⟩
    case round =>
      clear hmin
      obtain ⟨r, V, hk, rfl, rfl, HV⟩ := hrel
      by_cases hlt : 0 < r
      · obtain ⟨q, rfl⟩ : ∃ q, r = q + 1 := ⟨r - 1, by omega⟩
        have hq : q < s.size := by omega
        have hb : 0 ≤ V ∧ V ≤ 72057594037927935 := by rw [HV.out]; exact numOf_bd7 _ (by simp; omega)
        have hb0 := hb.1
        have hb1 := hb.2
        clear hb
        have hby : (s[q].toNat : Int) < 256 := by have := s[q].toNat_lt; omega
        have HN : Hid (V * 256 + (s[q].toNat : Int) = numOf ((s.data.toList.take m).drop q).reverse) := by
          show _ = _; rw [take_rev_snoc s m q (by omega) hq, HV.out]
        have hcast : ((q + 1 : Nat) : Int) - 1 = (q : Int) := by omega
        rw [hcast]
        go_wp2
        go_round
        case rel => exact ⟨q, V * 256 + (s[q].toNat : Int), by omega, by go_num, rfl, HN⟩
        case measure => simp [intOf]
      · obtain rfl : r = 0 := by omega
        go_wp2
        go_ret
        exact ⟨ret_int (by rw [HT.out, HV.out]; rfl), rfl⟩

end Go.Proofs.Ytgeackoaghkgmaa
