/-
  Parts of this proof, one behind the other: Oct2, Oct4, Oct5, Oct3, Oct11, Fill0, Pad0, Pad3.
-/
import Derived.Test.YtanghehmfagmfaaGreatDoorBun2
import Derived.Laws.IdiomStrings

/-
  The contracts of package octet's PutBig and PutLittle, and of the reference's.
-/
namespace Go.Proofs.YtanghehmfagmfaaGreatDoor
open Go.RowKit
set_option linter.unusedVariables false
set_option maxRecDepth 100000

theorem info8 : (Tryz.prog.info? 5).map (fun i => (i.zero, i.size, i.bytes)) = some (some (.int .u8 0), 1, 1) := by kernel_rfl

theorem cells8_len (l : List UInt8) : (cells8 l).length = l.length := by simp [cells8]
theorem cells8_at (l : List UInt8) (j : Nat) (h : j < l.length) : (cells8 l)[j]? = some (.int .u8 (l[j].toNat : Int)) := by
  simp [cells8, h, cell8]
theorem cells8_set (l : List UInt8) (j : Nat) (b : UInt8) : (cells8 l).set j (cell8 b) = cells8 (l.set j b) := by
  simp [cells8, List.map_set]
theorem made8 (n : Nat) : (madeCells #[.int .u8 0] n).toList = cells8 (List.replicate n 0) := by
  rw [toList_madeCells_one]
  simp [cells8, cell8]

/-- A row of bytes that the call made, as a string. -/
theorem own_string {wr : World} {base g n cap : Nat} {l : List UInt8} (h : wr.ownsRow base 5 1 (.slice (some ⟨g, 0, none⟩) n cap) n (cells8 l)) :
    (convert 51 9 (.slice (some ⟨g, 0, none⟩) n cap)).run Tryz.prog wr = .ok (.string (str l)) wr := by
  have hl : n = l.length := by have := h.1; rw [cells8_len] at this; omega
  subst hl
  refine run_convert_bytes_back wr _ _ 5 ⟨g, 0, none⟩ cap l Tryz.underlying51 Tryz.underlying5 Tryz.underlying9 ?_
  intro j hj
  have := h.cellAt j (by omega)
  rw [cells8_at l j hj] at this
  rw [show (⟨g, 0, none⟩ : Addr).add j = ⟨g, j, none⟩ from by simp [Addr.add]; exact fun h => h.symm]; exact this

/-- A byte stored into such a row. -/
theorem own_store {w wr : World} {base g n cap : Nat} {l : List UInt8} (h : wr.ownsRow base 5 1 (.slice (some ⟨g, 0, none⟩) n cap) n (cells8 l)) (hb : Below base w wr) (hg : base ≤ g) (j : Nat) (b : UInt8) :
    (wr.setCell ⟨g, j, none⟩ (.int .u8 (b.toNat : Int))).ownsRow base 5 1 (.slice (some ⟨g, 0, none⟩) n cap) n (cells8 (l.set j b)) ∧ Below base w (wr.setCell ⟨g, j, none⟩ (.int .u8 (b.toNat : Int))) := by
  have := (h.stored j (cell8 b)).1
  rw [cells8_set] at this
  exact ⟨this, hb.setCell hg _⟩

theorem set_back {l : List UInt8} {n k : Nat} {f : Nat → UInt8} (hl : l.length = n) (h : ∀ j, j < k → l[n - 1 - j]? = some (f j)) (hk : k < n) :
    ∀ j, j < k + 1 → (l.set (n - 1 - k) (f k))[n - 1 - j]? = some (f j) := by
  intro j hj
  rw [List.getElem?_set]
  by_cases e : j = k
  · subst e; rw [if_pos rfl, if_pos (by omega)]
  · rw [if_neg (by omega)]; exact h j (by omega)

theorem big_of {l : List UInt8} {n : Nat} {f : Nat → UInt8} (hl : l.length = n) (h : ∀ j, j < n → l[n - 1 - j]? = some (f j)) : l = (List.range n).map (fun j => f (n - 1 - j)) := by
  refine list_eq_map hl fun j hj => ?_
  have := h (n - 1 - j) (by omega)
  rwa [show n - 1 - (n - 1 - j) = j from by omega] at this

set_option maxHeartbeats 400000 in
theorem octet_putBig_yes (v : Int) (n : Nat) (w : World) (h0 : 0 ≤ v) (h1 : v < 18446744073709551616) (n1 : 1 ≤ n) (n8 : n ≤ 8) :
    Calls Tryz.prog 34 #[.int .u64 v, .int .i64 n] w fun e w' => e = .returned (.string (putBigS v n)) ∧ Below w.heap.size w w' := by
  have hw : decide (1 ≤ (n : Int) ∧ (n : Int) ≤ 8) = true := by simp; omega
  obtain ⟨i0, hi, hz0, hz1, hz2⟩ := info_parts info8
  go_enter Tryz.func34, Tryz.ntmps34
  go_wp2_with (first | (go_at_call 87; refine (octet_isWidth _ _).mono ?_; rintro e w' ⟨rfl, rfl⟩; rw [hw]) | (at_make; refine wpList_make_full _ rfl _ _ 51 rfl w.heap.size 5 i0 (.int .u8 0) 1 Tryz.underlying51 hi hz0 hz1 .i64 .i64 n n n rfl rfl rfl rfl (by rw [hz2]; omega) (by unfold maxLen; omega) (Nat.le_refl _) ?_))
  intro w1 hown hgrow
  rw [made8] at hown
  have hb1 : Below w.heap.size w w1 := (Below.refl _ w).grown hgrow (Nat.le_refl _) (by intro k hk; cases hk)
  clear hgrow
  go_wp2
  go_loopw [14] (fun i wr => ∃ (k : Nat) (l : List UInt8), k ≤ n ∧ i = .int .i64 k ∧ l.length = n ∧ (∀ j, j < k → l[n - 1 - j]? = some (byteOf v j)) ∧ wr.ownsRow w.heap.size 5 1 (.slice (some ⟨w.heap.size, 0, none⟩) n n) n (cells8 l) ∧ Below w.heap.size w wr) (fun i _ => n - (intOf i).toNat)
  case atStart => exact ⟨0, List.replicate n 0, Nat.zero_le _, rfl, by simp, by intro j hj; omega, hown, hb1⟩
  case round =>
    clear hown hb1
    obtain ⟨k, l, hk, rfl, hl, hbs, hown, hbel⟩ := hrel
    by_cases hlt : k < n
    · have hcell := hown.cellAt (n - 1 - k) (by omega)
      have hfz := hown.frozenAt (n - 1 - k)
      rw [cells8_at l (n - 1 - k) (by omega)] at hcell
      go_wp2_with (first | (go_at_call 88; refine (octet_byteAt _ _ _ h0 h1 (by omega) (by omega)).mono ?_; rintro e w' ⟨rfl, rfl⟩))
      go_roundw
      case rel =>
        have hs := own_store hown hbel (Nat.le_refl _) (n - 1 - k) (byteOf v k)
        exact ⟨k + 1, l.set (n - 1 - k) (byteOf v k), by omega, by go_num, by simpa using hl, set_back hl hbs hlt, hs.1, hs.2⟩
      case measure => simp [intOf]; omega
    · have hkn : k = n := by omega
      subst hkn
      have hconv := own_string hown
      go_wp2
      go_ret
      refine ⟨?_, hbel⟩
      rw [show putBigS v k = str l from by unfold putBigS putBig; rw [if_pos (by omega)]; congr 1; exact (big_of hl hbs).symm]
      rfl
theorem putBigS_no (v n : Int) (h : ¬ (1 ≤ n ∧ n ≤ 8)) : putBigS v n = ⟨#[]⟩ := by
  unfold putBigS putBig; rw [if_neg h]; rfl
theorem putLittleS_no (v n : Int) (h : ¬ (1 ≤ n ∧ n ≤ 8)) : putLittleS v n = ⟨#[]⟩ := by
  unfold putLittleS putLittle; rw [if_neg h]; rfl
theorem ret_str {a b : ByteArray} (h : a = b) : Ending.returned (.string a) = .returned (.string b) := by rw [h]

theorem octet_putBig (v n : Int) (w : World) (h0 : 0 ≤ v) (h1 : v < 18446744073709551616) :
    Calls Tryz.prog 34 #[.int .u64 v, .int .i64 n] w fun e w' => e = .returned (.string (putBigS v n)) ∧ Below w.heap.size w w' := by
  by_cases h : 1 ≤ n ∧ n ≤ 8
  · obtain ⟨m, rfl⟩ := Int.eq_ofNat_of_zero_le (show 0 ≤ n from by omega)
    exact octet_putBig_yes v m w h0 h1 (by omega) (by omega)
  · have hw : decide (1 ≤ n ∧ n ≤ 8) = false := by simp; omega
    have hno : Hid (putBigS v n = ⟨#[]⟩) := putBigS_no v n h
    clear h
    go_enter Tryz.func34, Tryz.ntmps34
    go_wp2_with (first | (go_at_call 87; refine (octet_isWidth _ _).mono ?_; rintro e w' ⟨rfl, rfl⟩; rw [hw]))
    go_ret
    exact ⟨ret_str hno.out.symm, Below.refl _ _⟩

theorem set_fore {l : List UInt8} {n k : Nat} {f : Nat → UInt8} (hl : l.length = n) (h : ∀ j, j < k → l[j]? = some (f j)) (hk : k < n) :
    ∀ j, j < k + 1 → (l.set k (f k))[j]? = some (f j) := by
  intro j hj
  rw [List.getElem?_set]
  by_cases e : k = j
  · subst e; rw [if_pos rfl, if_pos (by omega)]
  · rw [if_neg e]; exact h j (by omega)

set_option maxHeartbeats 400000 in
theorem octet_putLittle_yes (v : Int) (n : Nat) (w : World) (h0 : 0 ≤ v) (h1 : v < 18446744073709551616) (n1 : 1 ≤ n) (n8 : n ≤ 8) :
    Calls Tryz.prog 172 #[.int .u64 v, .int .i64 n] w fun e w' => e = .returned (.string (putLittleS v n)) ∧ Below w.heap.size w w' := by
  have hw : decide (1 ≤ (n : Int) ∧ (n : Int) ≤ 8) = true := by simp; omega
  obtain ⟨i0, hi, hz0, hz1, hz2⟩ := info_parts info8
  go_enter Tryz.func172, Tryz.ntmps172
  go_wp2_with (first | (go_at_call 87; refine (octet_isWidth _ _).mono ?_; rintro e w' ⟨rfl, rfl⟩; rw [hw]) | (at_make; refine wpList_make_full _ rfl _ _ 51 rfl w.heap.size 5 i0 (.int .u8 0) 1 Tryz.underlying51 hi hz0 hz1 .i64 .i64 n n n rfl rfl rfl rfl (by rw [hz2]; omega) (by unfold maxLen; omega) (Nat.le_refl _) ?_))
  intro w1 hown hgrow
  rw [made8] at hown
  have hb1 : Below w.heap.size w w1 := (Below.refl _ w).grown hgrow (Nat.le_refl _) (by intro k hk; cases hk)
  clear hgrow
  go_wp2
  go_loopw [14] (fun i wr => ∃ (k : Nat) (l : List UInt8), k ≤ n ∧ i = .int .i64 k ∧ l.length = n ∧ (∀ j, j < k → l[j]? = some (byteOf v j)) ∧ wr.ownsRow w.heap.size 5 1 (.slice (some ⟨w.heap.size, 0, none⟩) n n) n (cells8 l) ∧ Below w.heap.size w wr) (fun i _ => n - (intOf i).toNat)
  case atStart => exact ⟨0, List.replicate n 0, Nat.zero_le _, rfl, by simp, by intro j hj; omega, hown, hb1⟩
  case round =>
    clear hown hb1
    obtain ⟨k, l, hk, rfl, hl, hbs, hown, hbel⟩ := hrel
    by_cases hlt : k < n
    · have hcell := hown.cellAt k (by omega)
      have hfz := hown.frozenAt k
      rw [cells8_at l k (by omega)] at hcell
      go_wp2_with (first | (go_at_call 88; refine (octet_byteAt _ _ _ h0 h1 (by omega) (by omega)).mono ?_; rintro e w' ⟨rfl, rfl⟩))
      go_roundw
      case rel =>
        have hs := own_store hown hbel (Nat.le_refl _) k (byteOf v k)
        exact ⟨k + 1, l.set k (byteOf v k), by omega, by go_num, by simpa using hl, set_fore hl hbs hlt, hs.1, hs.2⟩
      case measure => simp [intOf]; omega
    · have hkn : k = n := by omega
      subst hkn
      have hconv := own_string hown
      go_wp2
      go_ret
      refine ⟨?_, hbel⟩
      rw [show putLittleS v k = str l from by unfold putLittleS putLittle; rw [if_pos (by omega)]; congr 1; exact (list_eq_map hl hbs).symm]
      rfl

theorem octet_putLittle (v n : Int) (w : World) (h0 : 0 ≤ v) (h1 : v < 18446744073709551616) :
    Calls Tryz.prog 172 #[.int .u64 v, .int .i64 n] w fun e w' => e = .returned (.string (putLittleS v n)) ∧ Below w.heap.size w w' := by
  by_cases h : 1 ≤ n ∧ n ≤ 8
  · obtain ⟨m, rfl⟩ := Int.eq_ofNat_of_zero_le (show 0 ≤ n from by omega)
    exact octet_putLittle_yes v m w h0 h1 (by omega) (by omega)
  · have hw : decide (1 ≤ n ∧ n ≤ 8) = false := by simp; omega
    have hno : Hid (putLittleS v n = ⟨#[]⟩) := putLittleS_no v n h
    clear h
    go_enter Tryz.func172, Tryz.ntmps172
    go_wp2_with (first | (go_at_call 87; refine (octet_isWidth _ _).mono ?_; rintro e w' ⟨rfl, rfl⟩; rw [hw]))
    go_ret
    exact ⟨ret_str hno.out.symm, Below.refl _ _⟩

end Go.Proofs.YtanghehmfagmfaaGreatDoor

/-
  The contracts of Big and Little, package octet's and the reference's.
-/
namespace Go.Proofs.YtanghehmfagmfaaGreatDoor
open Go.RowKit
set_option linter.unusedVariables false
set_option maxRecDepth 100000

/-- The number that bytes are, the highest first. -/
def numOf (l : List UInt8) : Int := l.foldl (fun v b => v * 256 + (b.toNat : Int)) 0
def bigS (s : ByteArray) : Int := numOf (s.data.toList.drop (s.size - 8))
def littleS (s : ByteArray) : Int := numOf (s.data.toList.take 8).reverse

theorem numOf_snoc (l : List UInt8) (b : UInt8) : numOf (l ++ [b]) = numOf l * 256 + (b.toNat : Int) := by simp [numOf]
theorem numOf_from (l : List UInt8) : ∀ v : Int, l.foldl (fun v b => v * 256 + (b.toNat : Int)) v = v * 256 ^ l.length + numOf l := by
  induction l with
  | nil => intro v; simp [numOf]
  | cons b l ih =>
    intro v
    have h := ih ((0 : Int) * 256 + (b.toNat : Int))
    simp only [numOf, List.foldl_cons, List.length_cons] at h ⊢
    rw [ih, h, Int.pow_succ, Int.add_mul, Int.add_mul, Int.zero_mul, Int.zero_mul, Int.zero_add, Int.mul_assoc, Int.mul_comm 256, Int.add_assoc]
    rfl
theorem numOf_cons (b : UInt8) (l : List UInt8) : numOf (b :: l) = (b.toNat : Int) * 256 ^ l.length + numOf l := by
  rw [show numOf (b :: l) = l.foldl (fun v b => v * 256 + (b.toNat : Int)) ((0 : Int) * 256 + (b.toNat : Int)) from rfl, numOf_from]
  simp
theorem numOf_bd (l : List UInt8) : 0 ≤ numOf l ∧ numOf l < 256 ^ l.length := by
  induction l with
  | nil => simp [numOf]
  | cons b l ih =>
    rw [numOf_cons, List.length_cons, Int.pow_succ]
    have h1 := b.toNat_lt
    have h2 : (b.toNat : Int) * 256 ^ l.length ≤ 255 * 256 ^ l.length := Int.mul_le_mul_of_nonneg_right (by omega) (Int.pow_nonneg (by decide))
    have h3 : 0 ≤ (b.toNat : Int) * 256 ^ l.length := Int.mul_nonneg (by omega) (Int.pow_nonneg (by decide))
    omega
theorem pow256_le (a b : Nat) (h : a ≤ b) : (256 : Int) ^ a ≤ 256 ^ b := by
  have h2 : (256 : Nat) ^ a ≤ 256 ^ b := Nat.pow_le_pow_right (by decide) h
  have e : ∀ n : Nat, ((256 ^ n : Nat) : Int) = (256 : Int) ^ n := fun n => by rw [Int.natCast_pow]; rfl
  rw [← e, ← e]
  exact Int.ofNat_le.2 h2
theorem numOf_bd7 (l : List UInt8) (h : l.length ≤ 7) : 0 ≤ numOf l ∧ numOf l ≤ 72057594037927935 := by
  have := numOf_bd l
  have h2 : (256 : Int) ^ l.length ≤ 256 ^ 7 := pow256_le _ _ h
  have h3 : (256 : Int) ^ 7 = 72057594037927936 := by decide
  omega
theorem numOf_bd8 (l : List UInt8) (h : l.length ≤ 8) : 0 ≤ numOf l ∧ numOf l < 18446744073709551616 := by
  have := numOf_bd l
  have h2 : (256 : Int) ^ l.length ≤ 256 ^ 8 := pow256_le _ _ h
  have h3 : (256 : Int) ^ 8 = 18446744073709551616 := by decide
  omega
theorem bigS_bd (s : ByteArray) : 0 ≤ bigS s ∧ bigS s < 18446744073709551616 := numOf_bd8 _ (by simp; omega)
theorem littleS_bd (s : ByteArray) : 0 ≤ littleS s ∧ littleS s < 18446744073709551616 := numOf_bd8 _ (by simp; omega)

theorem take_snoc (s : ByteArray) (k : Nat) (h : k < s.size) : s.data.toList.take (k + 1) = s.data.toList.take k ++ [s[k]] := by
  rw [List.take_succ_eq_append_getElem (by simpa using h)]; rfl

theorem or256 (V : Int) (b : UInt8) (h0 : 0 ≤ V) (h1 : V ≤ 72057594037927935) : bits BinOp.or IntKind.u64 (V * 256) (b.toNat : Int) = V * 256 + (b.toNat : Int) := by
  have := b.toNat_lt
  rw [u64_or _ _ (by omega) (by omega) (by omega) (by omega), nat_join 8 _ _ (by omega) (by omega)]
  omega

set_option maxRecDepth 100000 in
theorem octet_big (s : ByteArray) (w : World) (hs : s.size ≤ maxLen) :
    Calls Tryz.prog 43 #[.string s] w fun e w' => e = .returned (.int .u64 (bigS s)) ∧ w = w' := by
  unfold maxLen at hs
  by_cases h : 8 < s.size
  · have hd : decide (8 < (s.size : Int)) = true := by simp; omega
    go_enter Tryz.func43, Tryz.ntmps43
    go_wp2
    have hts : (s.extract (s.size - 8) s.size).size ≤ 8 := by simp; omega
    have HT : Hid (bigS s = numOf (s.extract (s.size - 8) s.size).data.toList) := by
      unfold bigS
      rw [ByteArray.data_extract, Array.toList_extract]
      congr 1
      simp [List.take_of_length_le]
    generalize s.extract (s.size - 8) s.size = t at *
    clear hd
    go_loop [3, 4] (fun v i => ∃ (k : Nat) (V : Int), k ≤ t.size ∧ i = .int .i64 k ∧ v = .int .u64 V ∧ Hid (V = numOf (t.data.toList.take k))) (fun _ i => t.size - (intOf i).toNat)
    case atStart => exact ⟨0, 0, Nat.zero_le _, rfl, rfl, rfl⟩
    case round =>
      obtain ⟨k, V, hk, rfl, rfl, HV⟩ := hrel
      by_cases hlt : k < t.size
      · have hb : 0 ≤ V ∧ V ≤ 72057594037927935 := by rw [HV.out]; exact numOf_bd7 _ (by simp; omega)
        have hor := or256 V t[k] hb.1 hb.2
        have hb0 := hb.1
        have hb1 := hb.2
        clear hb
        have hby : (t[k].toNat : Int) < 256 := by have := t[k].toNat_lt; omega
        have HN : Hid (V * 256 + (t[k].toNat : Int) = numOf (t.data.toList.take (k + 1))) := by
          show _ = _; rw [take_snoc t k hlt, numOf_snoc, HV.out]
        go_wp2
        go_round
        case rel => exact ⟨k + 1, V * 256 + (t[k].toNat : Int), by omega, by go_num, rfl, HN⟩
        case measure => simp [intOf]; omega
      · go_wp2
        go_ret
        exact ⟨ret_int (by rw [HT.out, HV.out, List.take_of_length_le (by simp; omega)]), rfl⟩
  · have hd : decide (8 < (s.size : Int)) = false := by simp; omega
    have hts : s.size ≤ 8 := by omega
    have HT : Hid (bigS s = numOf s.data.toList) := by
      unfold bigS
      rw [show s.size - 8 = 0 from by omega]; rfl
    clear h
    generalize s = t at *
    go_enter Tryz.func43, Tryz.ntmps43
    go_wp2
    clear hd
    go_loop [3, 4] (fun v i => ∃ (k : Nat) (V : Int), k ≤ t.size ∧ i = .int .i64 k ∧ v = .int .u64 V ∧ Hid (V = numOf (t.data.toList.take k))) (fun _ i => t.size - (intOf i).toNat)
    case atStart => exact ⟨0, 0, Nat.zero_le _, rfl, rfl, rfl⟩
    case round =>
      obtain ⟨k, V, hk, rfl, rfl, HV⟩ := hrel
      by_cases hlt : k < t.size
      · have hb : 0 ≤ V ∧ V ≤ 72057594037927935 := by rw [HV.out]; exact numOf_bd7 _ (by simp; omega)
        have hor := or256 V t[k] hb.1 hb.2
        have hb0 := hb.1
        have hb1 := hb.2
        clear hb
        have hby : (t[k].toNat : Int) < 256 := by have := t[k].toNat_lt; omega
        have HN : Hid (V * 256 + (t[k].toNat : Int) = numOf (t.data.toList.take (k + 1))) := by
          show _ = _; rw [take_snoc t k hlt, numOf_snoc, HV.out]
        go_wp2
        go_round
        case rel => exact ⟨k + 1, V * 256 + (t[k].toNat : Int), by omega, by go_num, rfl, HN⟩
        case measure => simp [intOf]; omega
      · go_wp2
        go_ret
        exact ⟨ret_int (by rw [HT.out, HV.out, List.take_of_length_le (by simp; omega)]), rfl⟩

theorem drop_cons (s : ByteArray) (r : Nat) (h : r < s.size) : s.data.toList.drop r = s[r] :: s.data.toList.drop (r + 1) := by
  rw [List.drop_eq_getElem_cons (by simpa using h)]; rfl

theorem rev_snoc (s : ByteArray) (r : Nat) (h : r < s.size) : numOf (s.data.toList.drop r).reverse = numOf (s.data.toList.drop (r + 1)).reverse * 256 + (s[r].toNat : Int) := by
  rw [drop_cons s r h, List.reverse_cons, numOf_snoc]

set_option maxRecDepth 100000 in
theorem octet_little (s : ByteArray) (w : World) (hs : s.size ≤ maxLen) :
    Calls Tryz.prog 198 #[.string s] w fun e w' => e = .returned (.int .u64 (littleS s)) ∧ w = w' := by
  unfold maxLen at hs
  by_cases h : 8 < s.size
  · have hd : decide (8 < (s.size : Int)) = true := by simp; omega
    go_enter Tryz.func198, Tryz.ntmps198
    go_wp2
    have hts : (s.extract 0 8).size ≤ 8 := by simp; omega
    have hmin : min 8 s.size = (s.extract 0 8).size := by simp
    have HT : Hid (littleS s = numOf (s.extract 0 8).data.toList.reverse) := by
      unfold littleS
      rw [ByteArray.data_extract, Array.toList_extract]
      rfl
    rw [hmin]
    clear hmin
    generalize s.extract 0 8 = t at *
    clear hd
    go_loop [3, 4] (fun v i => ∃ (r : Nat) (V : Int), r ≤ t.size ∧ i = .int .i64 ((r : Int) - 1) ∧ v = .int .u64 V ∧ Hid (V = numOf (t.data.toList.drop r).reverse)) (fun _ i => (intOf i + 1).toNat)
    case atStart => exact ⟨t.size, 0, Nat.le_refl _, rfl, rfl, by rw [List.drop_of_length_le (by simp)]; rfl⟩
    case round =>
      obtain ⟨r, V, hk, rfl, rfl, HV⟩ := hrel
      by_cases hlt : 0 < r
      · obtain ⟨q, rfl⟩ : ∃ q, r = q + 1 := ⟨r - 1, by omega⟩
        have hq : q < t.size := by omega
        have hb : 0 ≤ V ∧ V ≤ 72057594037927935 := by rw [HV.out]; exact numOf_bd7 _ (by simp; omega)
        have hor := or256 V t[q] hb.1 hb.2
        have hb0 := hb.1
        have hb1 := hb.2
        clear hb
        have hby : (t[q].toNat : Int) < 256 := by have := t[q].toNat_lt; omega
        have HN : Hid (V * 256 + (t[q].toNat : Int) = numOf (t.data.toList.drop q).reverse) := by
          show _ = _; rw [rev_snoc t q hq, HV.out]
        have hcast : ((q + 1 : Nat) : Int) - 1 = (q : Int) := by omega
        rw [hcast]
        go_wp2
        go_round
        case rel => exact ⟨q, V * 256 + (t[q].toNat : Int), by omega, by go_num, rfl, HN⟩
        case measure => simp [intOf]
      · obtain rfl : r = 0 := by omega
        go_wp2
        go_ret
        exact ⟨ret_int (by rw [HT.out, HV.out]; rfl), rfl⟩
  · have hd : decide (8 < (s.size : Int)) = false := by simp; omega
    have hts : s.size ≤ 8 := by omega
    have HT : Hid (littleS s = numOf s.data.toList.reverse) := by
      unfold littleS
      rw [List.take_of_length_le (by simpa using hts)]; rfl
    clear h
    generalize s = t at *
    go_enter Tryz.func198, Tryz.ntmps198
    go_wp2
    clear hd
    go_loop [3, 4] (fun v i => ∃ (r : Nat) (V : Int), r ≤ t.size ∧ i = .int .i64 ((r : Int) - 1) ∧ v = .int .u64 V ∧ Hid (V = numOf (t.data.toList.drop r).reverse)) (fun _ i => (intOf i + 1).toNat)
    case atStart => exact ⟨t.size, 0, Nat.le_refl _, rfl, rfl, by rw [List.drop_of_length_le (by simp)]; rfl⟩
    case round =>
      obtain ⟨r, V, hk, rfl, rfl, HV⟩ := hrel
      by_cases hlt : 0 < r
      · obtain ⟨q, rfl⟩ : ∃ q, r = q + 1 := ⟨r - 1, by omega⟩
        have hq : q < t.size := by omega
        have hb : 0 ≤ V ∧ V ≤ 72057594037927935 := by rw [HV.out]; exact numOf_bd7 _ (by simp; omega)
        have hor := or256 V t[q] hb.1 hb.2
        have hb0 := hb.1
        have hb1 := hb.2
        clear hb
        have hby : (t[q].toNat : Int) < 256 := by have := t[q].toNat_lt; omega
        have HN : Hid (V * 256 + (t[q].toNat : Int) = numOf (t.data.toList.drop q).reverse) := by
          show _ = _; rw [rev_snoc t q hq, HV.out]
        have hcast : ((q + 1 : Nat) : Int) - 1 = (q : Int) := by omega
        rw [hcast]
        go_wp2
        go_round
        case rel => exact ⟨q, V * 256 + (t[q].toNat : Int), by omega, by go_num, rfl, HN⟩
        case measure => simp [intOf]
      · obtain rfl : r = 0 := by omega
        go_wp2
        go_ret
        exact ⟨ret_int (by rw [HT.out, HV.out]; rfl), rfl⟩

end Go.Proofs.YtanghehmfagmfaaGreatDoor

/-
  The contracts of the reference's Big and Little.
-/
namespace Go.Proofs.YtanghehmfagmfaaGreatDoor
open Go.RowKit
set_option linter.unusedVariables false
set_option maxRecDepth 100000

theorem take_drop_snoc (s : ByteArray) (m k : Nat) (hm : m ≤ k) (h : k < s.size) : numOf ((s.data.toList.take (k + 1)).drop m) = numOf ((s.data.toList.take k).drop m) * 256 + (s[k].toNat : Int) := by
  rw [take_snoc s k h, List.drop_append_of_le_length (by simp; omega), numOf_snoc]

set_option maxRecDepth 100000 in
theorem ref_big (s : ByteArray) (w : World) (hs : s.size ≤ maxLen) :
    Calls Tryz.prog 48 #[.string s] w fun e w' => e = .returned (.int .u64 (bigS s)) ∧ w = w' := by
  unfold maxLen at hs
  obtain ⟨m, hm⟩ : ∃ m : Nat, m = s.size - 8 := ⟨_, rfl⟩
  have HM : Hid (m = s.size - 8) := hm
  have HT : Hid (bigS s = numOf (s.data.toList.drop m)) := by unfold bigS; rw [hm]; rfl
  have hm1 : m ≤ s.size := by omega
  have hm2 : s.size ≤ m + 8 := by omega
  have hmax : max ((s.size : Int) - 8) 0 = (m : Int) := by omega
  clear hm
  go_enter Tryz.func48, Tryz.ntmps48
  go_wp2
  all_goals
    go_loop [3, 4] (fun v i => ∃ (k : Nat) (V : Int), m ≤ k ∧ k ≤ s.size ∧ i = .int .i64 k ∧ v = .int .u64 V ∧ Hid (V = numOf ((s.data.toList.take k).drop m))) (fun _ i => s.size - (intOf i).toNat)
    case atStart => exact ⟨m, 0, Nat.le_refl _, hm1, by congr 1; omega, rfl, by show _ = _; rw [List.drop_of_length_le (by simp; omega)]; rfl⟩
    case round =>
      clear hmax
      obtain ⟨k, V, hmk, hk, rfl, rfl, HV⟩ := hrel
      by_cases hlt : k < s.size
      · have hb : 0 ≤ V ∧ V ≤ 72057594037927935 := by rw [HV.out]; exact numOf_bd7 _ (by simp; omega)
        have hb0 := hb.1
        have hb1 := hb.2
        clear hb
        have hby : (s[k].toNat : Int) < 256 := by have := s[k].toNat_lt; omega
        have HN : Hid (V * 256 + (s[k].toNat : Int) = numOf ((s.data.toList.take (k + 1)).drop m)) := by
          show _ = _; rw [take_drop_snoc s m k hmk hlt, HV.out]
        go_wp2
        go_round
        case rel => exact ⟨k + 1, V * 256 + (s[k].toNat : Int), by omega, by omega, by go_num, rfl, HN⟩
        case measure => simp [intOf]; omega
      · go_wp2
        go_ret
        exact ⟨ret_int (by rw [HT.out, HV.out, List.take_of_length_le (by simp; omega)]), rfl⟩

theorem take_rev_snoc (s : ByteArray) (m r : Nat) (hm : r < m) (h : r < s.size) : numOf ((s.data.toList.take m).drop r).reverse = numOf ((s.data.toList.take m).drop (r + 1)).reverse * 256 + (s[r].toNat : Int) := by
  rw [List.drop_eq_getElem_cons (by simp; omega), List.reverse_cons, numOf_snoc]
  simp
  rfl

set_option maxRecDepth 100000 in
theorem ref_little (s : ByteArray) (w : World) (hs : s.size ≤ maxLen) :
    Calls Tryz.prog 147 #[.string s] w fun e w' => e = .returned (.int .u64 (littleS s)) ∧ w = w' := by
  unfold maxLen at hs
  obtain ⟨m, hm⟩ : ∃ m : Nat, m = min s.size 8 := ⟨_, rfl⟩
  have HT : Hid (littleS s = numOf (s.data.toList.take m).reverse) := by
    unfold littleS; rw [hm]
    by_cases h : s.size ≤ 8
    · rw [Nat.min_eq_left h, List.take_of_length_le (by simp; omega), List.take_of_length_le (by simp)]; rfl
    · rw [Nat.min_eq_right (by omega)]; rfl
  have hm1 : m ≤ s.size := by omega
  have hm2 : m ≤ 8 := by omega
  have hmin : min (s.size : Int) 8 = (m : Int) := by omega
  clear hm
  go_enter Tryz.func147, Tryz.ntmps147
  go_wp2
  all_goals
    go_loop [3, 4] (fun v i => ∃ (r : Nat) (V : Int), r ≤ m ∧ i = .int .i64 ((r : Int) - 1) ∧ v = .int .u64 V ∧ Hid (V = numOf ((s.data.toList.take m).drop r).reverse)) (fun _ i => (intOf i + 1).toNat)
    case atStart => exact ⟨m, 0, Nat.le_refl _, by congr 1; omega, rfl, by show _ = _; rw [List.drop_of_length_le (by simp; omega)]; rfl⟩
    case round =>
      clear hmin
      obtain ⟨r, V, hk, rfl, rfl, HV⟩ := hrel
      by_cases hlt : 0 < r
      · obtain ⟨q, rfl⟩ : ∃ q, r = q + 1 := ⟨r - 1, by omega⟩
        have hq : q < s.size := by omega
        have hb : 0 ≤ V ∧ V ≤ 72057594037927935 := by rw [HV.out]; exact numOf_bd7 _ (by simp; omega)
        have hb0 := hb.1
        have hb1 := hb.2
        clear hb
        have hby : (s[q].toNat : Int) < 256 := by have := s[q].toNat_lt; omega
        have HN : Hid (V * 256 + (s[q].toNat : Int) = numOf ((s.data.toList.take m).drop q).reverse) := by
          show _ = _; rw [take_rev_snoc s m q (by omega) hq, HV.out]
        have hcast : ((q + 1 : Nat) : Int) - 1 = (q : Int) := by omega
        rw [hcast]
        go_wp2
        go_round
        case rel => exact ⟨q, V * 256 + (s[q].toNat : Int), by omega, by go_num, rfl, HN⟩
        case measure => simp [intOf]
      · obtain rfl : r = 0 := by omega
        go_wp2
        go_ret
        exact ⟨ret_int (by rw [HT.out, HV.out]; rfl), rfl⟩

end Go.Proofs.YtanghehmfagmfaaGreatDoor

/-
  The contracts of the reference's PutBig and PutLittle.
-/
namespace Go.Proofs.YtanghehmfagmfaaGreatDoor
open Go.RowKit
set_option linter.unusedVariables false
set_option maxRecDepth 100000

theorem and255 (V : Int) (h0 : 0 ≤ V) (h1 : V < 18446744073709551616) : bits BinOp.and IntKind.u64 V 255 = V % 256 := by
  rw [u64_and _ _ h0 h1 (by omega) (by omega), show (255 : Int).toNat = 255 from rfl, nat_mask8]
  omega

theorem down256 (v : Int) (m : Nat) : v / 2 ^ (8 * m) / 256 = v / 2 ^ (8 * (m + 1)) := by
  rw [Int.ediv_ediv_of_nonneg (Int.pow_nonneg (by decide)), show (8 * (m + 1)) = 8 * m + 8 from by omega, Int.pow_add]
  rfl

theorem low_byte {v V : Int} {m : Nat} (h : V = v / 2 ^ (8 * m)) : V % 256 = ((byteOf v m).toNat : Int) := by rw [byteOf_val, h]

set_option maxHeartbeats 400000 in
set_option maxRecDepth 100000 in
theorem ref_putBig_yes (v : Int) (n : Nat) (w : World) (h0 : 0 ≤ v) (h1 : v < 18446744073709551616) (n1 : 1 ≤ n) (n8 : n ≤ 8) :
    Calls Tryz.prog 28 #[.int .u64 v, .int .i64 n] w fun e w' => e = .returned (.string (putBigS v n)) ∧ Below w.heap.size w w' := by
  obtain ⟨i0, hi, hz0, hz1, hz2⟩ := info_parts info8
  go_enter Tryz.func28, Tryz.ntmps28
  go_wp2_with (first | (at_make; refine wpList_make_full _ rfl _ _ 51 rfl w.heap.size 5 i0 (.int .u8 0) 1 Tryz.underlying51 hi hz0 hz1 .i64 .i64 n n n rfl rfl rfl rfl (by rw [hz2]; omega) (by unfold maxLen; omega) (Nat.le_refl _) ?_))
  intro w1 hown hgrow
  rw [made8] at hown
  have hb1 : Below w.heap.size w w1 := (Below.refl _ w).grown hgrow (Nat.le_refl _) (by intro k hk; cases hk)
  clear hgrow
  go_wp2
  go_loopw [0, 6] (fun x i wr => ∃ (k : Nat) (V : Int) (l : List UInt8), k ≤ n ∧ 0 ≤ V ∧ V < 18446744073709551616 ∧ x = .int .u64 V ∧ Hid (V = v / 2 ^ (8 * k)) ∧ i = .int .i64 ((n : Int) - 1 - k) ∧ l.length = n ∧ (∀ j, j < k → l[n - 1 - j]? = some (byteOf v j)) ∧ wr.ownsRow w.heap.size 5 1 (.slice (some ⟨w.heap.size, 0, none⟩) n n) n (cells8 l) ∧ Below w.heap.size w wr) (fun _ i _ => (intOf i + 1).toNat)
  case atStart => exact ⟨0, v, List.replicate n 0, Nat.zero_le _, h0, h1, rfl, by simp [Hid], by go_num, by simp, by intro j hj; omega, hown, hb1⟩
  case round =>
    clear hown hb1
    obtain ⟨k, V, l, hk, hV0, hV1, rfl, hV, rfl, hl, hbs, hown, hbel⟩ := hrel
    by_cases hlt : k < n
    · have hcell := hown.cellAt (n - 1 - k) (by omega)
      have hfz := hown.frozenAt (n - 1 - k)
      rw [cells8_at l (n - 1 - k) (by omega)] at hcell
      have hand := and255 V hV0 hV1
      have hlow : V % 256 = ((byteOf v k).toNat : Int) := low_byte hV.out
      have hlt8 : ((byteOf v k).toNat : Int) < 256 := by have := (byteOf v k).toNat_lt; omega
      rw [hlow] at hand
      clear hlow
      go_wp2
      go_roundw
      case rel =>
        have hs := own_store hown hbel (Nat.le_refl _) (n - 1 - k) (byteOf v k)
        exact ⟨k + 1, V / 256, l.set (n - 1 - k) (byteOf v k), by omega, by omega, by omega, rfl, by rw [hV.out]; exact down256 v k, by go_num, by simpa using hl, set_back hl hbs hlt, hs.1, hs.2⟩
      case measure => simp [intOf]; omega
    · have hkn : k = n := by omega
      subst hkn
      have hconv := own_string hown
      go_wp2
      go_ret
      refine ⟨?_, hbel⟩
      rw [show putBigS v k = str l from by unfold putBigS putBig; rw [if_pos (by omega)]; congr 1; exact (big_of hl hbs).symm]
      rfl

theorem ref_putBig (v n : Int) (w : World) (h0 : 0 ≤ v) (h1 : v < 18446744073709551616) :
    Calls Tryz.prog 28 #[.int .u64 v, .int .i64 n] w fun e w' => e = .returned (.string (putBigS v n)) ∧ Below w.heap.size w w' := by
  by_cases h : 1 ≤ n ∧ n ≤ 8
  · obtain ⟨m, rfl⟩ := Int.eq_ofNat_of_zero_le (show 0 ≤ n from by omega)
    exact ref_putBig_yes v m w h0 h1 (by omega) (by omega)
  · have hno : Hid (putBigS v n = ⟨#[]⟩) := putBigS_no v n h
    rcases (show n < 1 ∨ 8 < n from by omega) with h' | h'
    all_goals
      clear h
      go_enter Tryz.func28, Tryz.ntmps28
      go_wp2
      go_ret
      exact ⟨ret_str hno.out.symm, Below.refl _ _⟩

set_option maxHeartbeats 400000 in
set_option maxRecDepth 100000 in
theorem ref_putLittle_yes (v : Int) (n : Nat) (w : World) (h0 : 0 ≤ v) (h1 : v < 18446744073709551616) (n1 : 1 ≤ n) (n8 : n ≤ 8) :
    Calls Tryz.prog 101 #[.int .u64 v, .int .i64 n] w fun e w' => e = .returned (.string (putLittleS v n)) ∧ Below w.heap.size w w' := by
  obtain ⟨i0, hi, hz0, hz1, hz2⟩ := info_parts info8
  go_enter Tryz.func101, Tryz.ntmps101
  go_wp2_with (first | (at_make; refine wpList_make_full _ rfl _ _ 51 rfl w.heap.size 5 i0 (.int .u8 0) 1 Tryz.underlying51 hi hz0 hz1 .i64 .i64 n n n rfl rfl rfl rfl (by rw [hz2]; omega) (by unfold maxLen; omega) (Nat.le_refl _) ?_))
  intro w1 hown hgrow
  rw [made8] at hown
  have hb1 : Below w.heap.size w w1 := (Below.refl _ w).grown hgrow (Nat.le_refl _) (by intro k hk; cases hk)
  clear hgrow
  go_wp2
  go_loopw [0, 6] (fun x i wr => ∃ (k : Nat) (V : Int) (l : List UInt8), k ≤ n ∧ 0 ≤ V ∧ V < 18446744073709551616 ∧ x = .int .u64 V ∧ Hid (V = v / 2 ^ (8 * k)) ∧ i = .int .i64 k ∧ l.length = n ∧ (∀ j, j < k → l[j]? = some (byteOf v j)) ∧ wr.ownsRow w.heap.size 5 1 (.slice (some ⟨w.heap.size, 0, none⟩) n n) n (cells8 l) ∧ Below w.heap.size w wr) (fun _ i _ => n - (intOf i).toNat)
  case atStart => exact ⟨0, v, List.replicate n 0, Nat.zero_le _, h0, h1, rfl, by simp [Hid], by go_num, by simp, by intro j hj; omega, hown, hb1⟩
  case round =>
    clear hown hb1
    obtain ⟨k, V, l, hk, hV0, hV1, rfl, hV, rfl, hl, hbs, hown, hbel⟩ := hrel
    by_cases hlt : k < n
    · have hcell := hown.cellAt k (by omega)
      have hfz := hown.frozenAt k
      rw [cells8_at l k (by omega)] at hcell
      have hand := and255 V hV0 hV1
      have hlow : V % 256 = ((byteOf v k).toNat : Int) := low_byte hV.out
      have hlt8 : ((byteOf v k).toNat : Int) < 256 := by have := (byteOf v k).toNat_lt; omega
      rw [hlow] at hand
      clear hlow
      go_wp2
      go_roundw
      case rel =>
        have hs := own_store hown hbel (Nat.le_refl _) k (byteOf v k)
        exact ⟨k + 1, V / 256, l.set k (byteOf v k), by omega, by omega, by omega, rfl, by rw [hV.out]; exact down256 v k, by go_num, by simpa using hl, set_fore hl hbs hlt, hs.1, hs.2⟩
      case measure => simp [intOf]; omega
    · have hkn : k = n := by omega
      subst hkn
      have hconv := own_string hown
      go_wp2
      go_ret
      refine ⟨?_, hbel⟩
      rw [show putLittleS v k = str l from by unfold putLittleS putLittle; rw [if_pos (by omega)]; congr 1; exact (list_eq_map hl hbs).symm]
      rfl

theorem ref_putLittle (v n : Int) (w : World) (h0 : 0 ≤ v) (h1 : v < 18446744073709551616) :
    Calls Tryz.prog 101 #[.int .u64 v, .int .i64 n] w fun e w' => e = .returned (.string (putLittleS v n)) ∧ Below w.heap.size w w' := by
  by_cases h : 1 ≤ n ∧ n ≤ 8
  · obtain ⟨m, rfl⟩ := Int.eq_ofNat_of_zero_le (show 0 ≤ n from by omega)
    exact ref_putLittle_yes v m w h0 h1 (by omega) (by omega)
  · have hno : Hid (putLittleS v n = ⟨#[]⟩) := putLittleS_no v n h
    rcases (show n < 1 ∨ 8 < n from by omega) with h' | h'
    all_goals
      clear h
      go_enter Tryz.func101, Tryz.ntmps101
      go_wp2
      go_ret
      exact ⟨ret_str hno.out.symm, Below.refl _ _⟩

end Go.Proofs.YtanghehmfagmfaaGreatDoor

/-
  Plain facts on bytes of numbers: both orders are one another's reverse; they go back.
-/
namespace Go.Proofs.YtanghehmfagmfaaGreatDoor
open Go.RowKit
set_option linter.unusedVariables false
set_option maxRecDepth 100000

theorem str_data (l : List UInt8) : (str l).data.toList = l := by simp [str]
theorem putBig_rev (v n : Int) : putBig v n = (putLittle v n).reverse := by
  unfold putBig putLittle
  split
  · apply List.ext_getElem
    · simp
    · intro i h1 h2
      simp at h1
      simp [List.getElem_reverse]
  · rfl
theorem putLittle_len (v n : Int) (h : 1 ≤ n ∧ n ≤ 8) : (putLittle v n).length = n.toNat := by
  unfold putLittle; rw [if_pos h]; simp
theorem putBig_len (v n : Int) (h : 1 ≤ n ∧ n ≤ 8) : (putBig v n).length = n.toNat := by
  rw [putBig_rev, List.length_reverse, putLittle_len v n h]
theorem putBigS_size (v n : Int) (h : 1 ≤ n ∧ n ≤ 8) : (putBigS v n).size = n.toNat := by
  unfold putBigS; rw [str_size, putBig_len v n h]
theorem putLittleS_size (v n : Int) (h : 1 ≤ n ∧ n ≤ 8) : (putLittleS v n).size = n.toNat := by
  unfold putLittleS; rw [str_size, putLittle_len v n h]
theorem putBigS_le (v n : Int) : (putBigS v n).size ≤ 8 := by
  by_cases h : 1 ≤ n ∧ n ≤ 8
  · rw [putBigS_size v n h]; omega
  · rw [show (putBigS v n).size = 0 from by unfold putBigS putBig; rw [if_neg h]; rfl]; omega
theorem putLittleS_le (v n : Int) : (putLittleS v n).size ≤ 8 := by
  by_cases h : 1 ≤ n ∧ n ≤ 8
  · rw [putLittleS_size v n h]; omega
  · rw [show (putLittleS v n).size = 0 from by unfold putLittleS putLittle; rw [if_neg h]; rfl]; omega
theorem big_little (v n : Int) : bigS (putBigS v n) = littleS (putLittleS v n) := by
  unfold bigS littleS
  have h1 := putBigS_le v n
  have h2 := putLittleS_le v n
  rw [show (putBigS v n).size - 8 = 0 from by omega, List.drop_zero, List.take_of_length_le (by simpa using h2)]
  unfold putBigS putLittleS
  rw [str_data, str_data, putBig_rev]

theorem mod_step (v P : Int) (hP : 0 < P) : v % (P * 256) = v / P % 256 * P + v % P := by
  have h1 := Int.mul_ediv_add_emod v P
  have h2 := Int.mul_ediv_add_emod (v / P) 256
  have r0 := Int.emod_nonneg v (Int.ne_of_gt hP)
  have r1 := Int.emod_lt_of_pos v hP
  have q0 : 0 ≤ v / P % 256 := by omega
  have q1 : v / P % 256 ≤ 255 := by omega
  generalize v / P % 256 = c at *
  generalize v / P / 256 = d at *
  generalize v % P = r at *
  have hv : v = (c * P + r) + (P * 256) * d := by
    rw [← h1, ← h2, Int.mul_add, Int.mul_comm P c, Int.mul_assoc P 256 d]
    omega
  rw [hv, Int.add_mul_emod_self_left]
  have hc : c * P ≤ 255 * P := Int.mul_le_mul_of_nonneg_right q1 (Int.le_of_lt hP)
  have hc0 : 0 ≤ c * P := Int.mul_nonneg q0 (Int.le_of_lt hP)
  exact Int.emod_eq_of_lt (by omega) (by omega)

/-- The lowest bytes of a number, the lowest first, make it up again. -/
theorem little_num (v : Int) : ∀ n : Nat, numOf ((List.range n).map (byteOf v)).reverse = v % 256 ^ n := by
  intro n
  induction n with
  | zero => simp [numOf, Int.emod_one]
  | succ n ih =>
    rw [List.range_succ, List.map_append, List.reverse_append, List.map_singleton, List.reverse_singleton, List.singleton_append, numOf_cons, ih, byteOf_val]
    simp only [List.length_reverse, List.length_map, List.length_range]
    have e : (2 : Int) ^ (8 * n) = 256 ^ n := by rw [Int.pow_mul]; rfl
    rw [e, Int.pow_succ]
    exact (mod_step v (256 ^ n) (Int.pow_pos (by decide))).symm

theorem little_back (v : Int) (h0 : 0 ≤ v) (h1 : v < 18446744073709551616) : littleS (putLittleS v 8) = v := by
  unfold littleS
  rw [List.take_of_length_le (by simpa using putLittleS_le v 8)]
  unfold putLittleS
  rw [str_data]
  unfold putLittle
  rw [if_pos (by omega), show (8 : Int).toNat = 8 from rfl, little_num, show (256 : Int) ^ 8 = 18446744073709551616 from by decide]
  omega
theorem big_back (v : Int) (h0 : 0 ≤ v) (h1 : v < 18446744073709551616) : bigS (putBigS v 8) = v := by
  rw [big_little, little_back v h0 h1]

end Go.Proofs.YtanghehmfagmfaaGreatDoor

/-
  The laws' own helper 'Fill' of chapter 5: a text of just n bytes.
-/
namespace Go.Proofs.YtanghehmfagmfaaGreatDoor
open Go.RowKit
set_option linter.unusedVariables false
set_option maxRecDepth 100000

/-- A text of just n bytes: its first ones, zeros behind. -/
def fill5L (l : List UInt8) (n : Nat) : List UInt8 := (l ++ List.replicate (n - l.length) 0).take n
def fillS (s : ByteArray) (n : Nat) : ByteArray := str (fill5L s.data.toList n)
theorem fillS_size (s : ByteArray) (n : Nat) : (fillS s n).size = n := by
  rw [fillS, str_size]; unfold fill5L; simp; omega
theorem fillS_of (t s : ByteArray) (n k : Nat) (ht : t.data.toList = s.data.toList ++ List.replicate k 0) (h : n ≤ t.size) (hk : k = 0 ∨ t.size ≤ n) : t.extract 0 n = fillS s n := by
  unfold fillS str fill5L
  apply ByteArray.ext
  rw [ByteArray.data_extract]
  apply Array.toList_inj.1
  rw [Array.toList_extract]
  have hl : t.size = s.size + k := by
    have := congrArg List.length ht
    simpa using this
  rcases hk with rfl | hk
  · simp only [List.replicate_zero, List.append_nil] at ht
    rw [ht]
    have : n - s.data.toList.length = 0 := by simp; omega
    rw [this]
    simp
  · rw [ht]
    have : n - s.data.toList.length = k := by simp; omega
    rw [this]
    simp
theorem zero_snoc (a : ByteArray) : (a ++ ⟨#[0]⟩).data.toList = a.data.toList ++ [0] := by simp

set_option maxHeartbeats 1000000 in
theorem law5_fill (s : ByteArray) (n : Nat) (w : World) (hs : s.size ≤ 9223372036854775807) (hn : n ≤ 1000000) :
    Calls Tryz.prog 14 #[.string s, .int .i64 n] w fun e w' => e = .returned (.string (fillS s n)) ∧ w = w' := by
  go_enter Tryz.func14, Tryz.ntmps14
  go_wp2_with fail
  go_loopw [0] (fun v wr => ∃ (k : Nat) (t : ByteArray), v = .string t ∧ t.data.toList = s.data.toList ++ List.replicate k 0 ∧ (k = 0 ∨ t.size ≤ n) ∧ wr = w) (fun v _ => match v with | .string t => n - t.size | _ => 0)
  case atStart => exact ⟨0, s, rfl, by simp, Or.inl rfl, rfl⟩
  case round =>
    obtain ⟨k, t, rfl, ht, hk, rfl⟩ := hrel
    by_cases hlt : t.size < n
    · have hcmp : (t.size : Int) < (n : Int) := by omega
      have hln : ¬ (9223372036854775807 < t.size + 1) := by omega
      have h2 : (t ++ ⟨#[0]⟩).data.toList = s.data.toList ++ List.replicate (k + 1) 0 := by
        rw [zero_snoc, ht, List.append_assoc]
        congr 1
        exact (List.replicate_succ' (n := k) (a := (0 : UInt8))).symm
      have h3 : (t ++ ⟨#[0]⟩).size = t.size + 1 := by simp; rfl
      clear ht hk
      generalize hT : t ++ ⟨#[0]⟩ = T at *
      go_wp2
      go_roundw
      case rel => exact ⟨k + 1, T, rfl, h2, Or.inr (by omega), by first | rfl | trivial⟩
      case measure => simp [h3]; omega
    · have hcmp : ¬ (t.size : Int) < (n : Int) := by omega
      have hle : (n : Int) ≤ (t.size : Int) := by omega
      have HF : Hid (t.extract 0 n = fillS s n) := fillS_of t s n k ht (by omega) hk
      have hx : (t.extract 0 n) = t.extract 0 n := rfl
      go_wp2
      go_ret
      exact ⟨by simp [HF.out], rfl⟩

theorem law5_fill32 (s : ByteArray) (w : World) (hs : s.size ≤ 9223372036854775807) :
    Calls Tryz.prog 14 #[.string s, .int .i64 32] w fun e w' => e = .returned (.string (fillS s 32)) ∧ w = w' := law5_fill s 32 w hs (by decide)
end Go.Proofs.YtanghehmfagmfaaGreatDoor

/-
  Plain mathematics for chapter 8 (pad): the four sizes, what is filled up, and back.
-/
namespace Go.Proofs.YtanghehmfagmfaaGreatDoor
open Go.RowKit
set_option linter.unusedVariables false
set_option maxRecDepth 100000
set_option linter.unusedSimpArgs false

def sizesL : List Int := [32, 128, 512, 2048]
/-- The least size that fits, or 0. -/
def sizeN (n : Int) : Int := if n < 0 then 0 else if n ≤ 30 then 32 else if n ≤ 126 then 128 else if n ≤ 510 then 512 else if n ≤ 2046 then 2048 else 0
def sizeOk (n : Int) : Bool := decide (0 ≤ n ∧ n ≤ 2046)
theorem sizeN_bd (n : Int) (h0 : 0 ≤ n) (h1 : n ≤ 2046) : n + 2 ≤ sizeN n ∧ sizeN n ≤ 2048 := by
  unfold sizeN
  rw [if_neg (by omega)]
  split
  · omega
  · split
    · omega
    · split
      · omega
      · omega
theorem sizeN_no (n : Int) (h : ¬ (0 ≤ n ∧ n ≤ 2046)) : sizeN n = 0 := by
  unfold sizeN
  by_cases h0 : n < 0
  · rw [if_pos h0]
  · rw [if_neg h0, if_neg (by omega), if_neg (by omega), if_neg (by omega), if_neg (by omega)]
/-- A text filled up. -/
def pad8L (l : List UInt8) : List UInt8 := putBig (l.length : Int) 2 ++ l ++ List.replicate ((sizeN (l.length : Int)).toNat - 2 - l.length) 0
def padOk (b : ByteArray) : Bool := decide (b.size ≤ 2046)
def padS (b : ByteArray) : ByteArray := if padOk b then str (pad8L b.data.toList) else ⟨#[]⟩
theorem putBig2_len (v : Int) : (putBig v 2).length = 2 := by
  unfold putBig
  rw [if_pos (by decide), List.length_map, List.length_range]; rfl
theorem putBig2 (v : Int) : putBig v 2 = [byteOf v 1, byteOf v 0] := by
  unfold putBig
  rw [if_pos (by decide)]
  rfl
theorem pad8L_len (l : List UInt8) (h : l.length ≤ 2046) : (pad8L l).length = (sizeN (l.length : Int)).toNat := by
  have := sizeN_bd (l.length : Int) (by omega) (by omega)
  unfold pad8L
  rw [List.length_append, List.length_append, putBig2_len, List.length_replicate]
  omega
theorem padS_yes (b : ByteArray) (h : b.size ≤ 2046) : padOk b = true ∧ padS b = str (pad8L b.data.toList) := by
  have : padOk b = true := decide_eq_true h
  exact ⟨this, by unfold padS; rw [this, if_pos rfl]⟩
theorem padS_no (b : ByteArray) (h : ¬ b.size ≤ 2046) : padOk b = false ∧ padS b = ⟨#[]⟩ := by
  have : padOk b = false := decide_eq_false h
  exact ⟨this, by unfold padS; rw [this]; rfl⟩
theorem padS_size (b : ByteArray) (h : b.size ≤ 2046) : (padS b).size = (sizeN (b.size : Int)).toNat := by
  have e := pad8L_len b.data.toList (by simpa using h)
  rw [(padS_yes b h).2, str_size, e]
  simp
/-- The number that a text's first two bytes tell. -/
def headN (b : ByteArray) : Nat := (bigS (b.extract 0 2)).toNat
theorem headN_is (b : ByteArray) : ((headN b : Nat) : Int) = bigS (b.extract 0 2) := by
  have := (bigS_bd (b.extract 0 2)).1
  unfold headN
  omega
/-- Is it the padding of a text? -/
def unpadOk (b : ByteArray) : Bool := decide (2 ≤ b.size ∧ headN b + 2 ≤ b.size ∧ padOk (b.extract 2 (2 + headN b)) = true ∧ padS (b.extract 2 (2 + headN b)) = b)
def unpadS (b : ByteArray) : ByteArray := if unpadOk b then b.extract 2 (2 + headN b) else ⟨#[]⟩
theorem head_list (b : ByteArray) (x y : UInt8) (r : List UInt8) (h : b.data.toList = x :: y :: r) : headN b = x.toNat * 256 + y.toNat := by
  have e : (b.extract 0 2).data.toList = [x, y] := by
    rw [ByteArray.data_extract, Array.toList_extract, h]
    rfl
  have es : (b.extract 0 2).size = 2 := by
    have := congrArg List.length e
    simpa using this
  unfold headN bigS numOf
  rw [es, e]
  simp
  omega
theorem headN_lt (b : ByteArray) (h : 2 ≤ b.size) : headN b < 65536 := by
  have hl : b.data.toList.length = b.size := by simp
  match hb : b.data.toList with
  | [] => rw [hb] at hl; simp at hl; omega
  | [x] => rw [hb] at hl; simp at hl; omega
  | x :: y :: r =>
    rw [head_list b x y r hb]
    have := x.toNat_lt
    have := y.toNat_lt
    omega
theorem head_pad (l : List UInt8) (h : l.length ≤ 2046) : headN (str (pad8L l)) = l.length := by
  have hl : (str (pad8L l)).data.toList = byteOf (l.length : Int) 1 :: byteOf (l.length : Int) 0 :: (l ++ List.replicate ((sizeN (l.length : Int)).toNat - 2 - l.length) 0) := by
    show (pad8L l) = _
    unfold pad8L
    rw [putBig2]
    simp
  rw [head_list _ _ _ _ hl]
  have h1 := byteOf_val (l.length : Int) 1
  have h0 := byteOf_val (l.length : Int) 0
  simp at h1 h0
  omega
theorem body_pad (l : List UInt8) (h : l.length ≤ 2046) : (str (pad8L l)).extract 2 (2 + l.length) = str l := by
  apply ByteArray.ext
  apply Array.toList_inj.1
  rw [ByteArray.data_extract, Array.toList_extract]
  show (pad8L l).extract 2 (2 + l.length) = l
  unfold pad8L
  rw [putBig2]
  simp [List.extract]
/-- What was filled up comes back. -/
theorem unpad_pad (b : ByteArray) (h : b.size ≤ 2046) : unpadOk (padS b) = true ∧ unpadS (padS b) = b := by
  have hl : b.data.toList.length ≤ 2046 := by simpa using h
  have e1 := head_pad b.data.toList hl
  have e2 := body_pad b.data.toList hl
  have e3 := padS_yes b h
  have e4 := padS_size b h
  have e5 := sizeN_bd (b.size : Int) (by omega) (by omega)
  rw [e3.2] at e4
  have hbl : b.data.toList.length = b.size := by simp
  have ok : unpadOk (padS b) = true := by
    unfold unpadOk
    rw [e3.2, e1, e2, str_back]
    refine decide_eq_true ⟨by omega, by omega, e3.1, e3.2⟩
  refine ⟨ok, ?_⟩
  unfold unpadS
  rw [ok, if_pos rfl, e3.2, e1, e2, str_back]
/-- Only the padding of what comes back comes back. -/
theorem pad_unpad (b : ByteArray) (h : unpadOk b = true) : padOk (unpadS b) = true ∧ padS (unpadS b) = b := by
  have hh := of_decide_eq_true h
  unfold unpadS
  rw [h, if_pos rfl]
  exact ⟨hh.2.2.1, hh.2.2.2⟩

end Go.Proofs.YtanghehmfagmfaaGreatDoor

/-
  Plain: what begins as a padding does and is another is none.
-/
namespace Go.Proofs.YtanghehmfagmfaaGreatDoor
open Go.RowKit
set_option linter.unusedVariables false
set_option maxRecDepth 100000
set_option linter.unusedSimpArgs false

end Go.Proofs.YtanghehmfagmfaaGreatDoor
