/-
  The contracts of Big and Little, package octet's and the reference's.
-/
import Derived.Test.YtjccdfnhcifgiaaOct2
namespace Go.Proofs.Ytjccdfnhcifgiaa
open Go.RowKit
set_option linter.unusedVariables false
set_option maxRecDepth 100000

/-- The number that bytes are, the highest first. -/
def numOf (l : List UInt8) : Int := l.foldl (fun v b => v * 256 + (b.toNat : Int)) 0
def bigS (s : ByteArray) : Int := numOf (s.data.toList.drop (s.size - 8))
def littleS (s : ByteArray) : Int := numOf (s.data.toList.take 8).reverse

theorem numOf_snoc (l : List UInt8) (b : UInt8) : numOf (l ++ [b]) = numOf l * 256 + (b.toNat : Int) := by simp [numOf]
theorem numOf_from (l : List UInt8) : ∀ v : Int, l.foldl (fun v b => v * 256 + (b.toNat : Int)) v = v * 256 ^ l.length + numOf l := by
  induction l with
  | nil => intro v; simp [numOf]
  | cons b l ih =>
    intro v
    have h := ih ((0 : Int) * 256 + (b.toNat : Int))
    simp only [numOf, List.foldl_cons, List.length_cons] at h ⊢
    rw [ih, h, Int.pow_succ, Int.add_mul, Int.add_mul, Int.zero_mul, Int.zero_mul, Int.zero_add, Int.mul_assoc, Int.mul_comm 256, Int.add_assoc]
    rfl
theorem numOf_cons (b : UInt8) (l : List UInt8) : numOf (b :: l) = (b.toNat : Int) * 256 ^ l.length + numOf l := by
  rw [show numOf (b :: l) = l.foldl (fun v b => v * 256 + (b.toNat : Int)) ((0 : Int) * 256 + (b.toNat : Int)) from rfl, numOf_from]
  simp
theorem numOf_append (l m : List UInt8) : numOf (l ++ m) = numOf l * 256 ^ m.length + numOf m := by
  rw [show numOf (l ++ m) = m.foldl (fun v b => v * 256 + (b.toNat : Int)) (numOf l) from by unfold numOf; rw [List.foldl_append], numOf_from]
theorem numOf_bd (l : List UInt8) : 0 ≤ numOf l ∧ numOf l < 256 ^ l.length := by
  induction l with
  | nil => simp [numOf]
  | cons b l ih =>
    rw [numOf_cons, List.length_cons, Int.pow_succ]
    have h1 := b.toNat_lt
    have h2 : (b.toNat : Int) * 256 ^ l.length ≤ 255 * 256 ^ l.length := Int.mul_le_mul_of_nonneg_right (by omega) (Int.pow_nonneg (by decide))
    have h3 : 0 ≤ (b.toNat : Int) * 256 ^ l.length := Int.mul_nonneg (by omega) (Int.pow_nonneg (by decide))
    omega
theorem pow256_le (a b : Nat) (h : a ≤ b) : (256 : Int) ^ a ≤ 256 ^ b := by
  have h2 : (256 : Nat) ^ a ≤ 256 ^ b := Nat.pow_le_pow_right (by decide) h
  have e : ∀ n : Nat, ((256 ^ n : Nat) : Int) = (256 : Int) ^ n := fun n => by rw [Int.natCast_pow]; rfl
  rw [← e, ← e]
  exact Int.ofNat_le.2 h2
theorem numOf_bd7 (l : List UInt8) (h : l.length ≤ 7) : 0 ≤ numOf l ∧ numOf l ≤ 72057594037927935 := by
  have := numOf_bd l
  have h2 : (256 : Int) ^ l.length ≤ 256 ^ 7 := pow256_le _ _ h
  have h3 : (256 : Int) ^ 7 = 72057594037927936 := by decide
  omega
theorem numOf_bd8 (l : List UInt8) (h : l.length ≤ 8) : 0 ≤ numOf l ∧ numOf l < 18446744073709551616 := by
  have := numOf_bd l
  have h2 : (256 : Int) ^ l.length ≤ 256 ^ 8 := pow256_le _ _ h
  have h3 : (256 : Int) ^ 8 = 18446744073709551616 := by decide
  omega
theorem bigS_bd (s : ByteArray) : 0 ≤ bigS s ∧ bigS s < 18446744073709551616 := numOf_bd8 _ (by simp; omega)
theorem littleS_bd (s : ByteArray) : 0 ≤ littleS s ∧ littleS s < 18446744073709551616 := numOf_bd8 _ (by simp; omega)

theorem take_snoc (s : ByteArray) (k : Nat) (h : k < s.size) : s.data.toList.take (k + 1) = s.data.toList.take k ++ [s[k]] := by
  rw [List.take_succ_eq_append_getElem (by simpa using h)]; rfl

theorem or256 (V : Int) (b : UInt8) (h0 : 0 ≤ V) (h1 : V ≤ 72057594037927935) : bits BinOp.or IntKind.u64 (V * 256) (b.toNat : Int) = V * 256 + (b.toNat : Int) := by
  have := b.toNat_lt
  rw [u64_or _ _ (by omega) (by omega) (by omega) (by omega), nat_join 8 _ _ (by omega) (by omega)]
  omega

theorem drop_cons (s : ByteArray) (r : Nat) (h : r < s.size) : s.data.toList.drop r = s[r] :: s.data.toList.drop (r + 1) := by
  rw [List.drop_eq_getElem_cons (by simpa using h)]; rfl

theorem rev_snoc (s : ByteArray) (r : Nat) (h : r < s.size) : numOf (s.data.toList.drop r).reverse = numOf (s.data.toList.drop (r + 1)).reverse * 256 + (s[r].toNat : Int) := by
  rw [drop_cons s r h, List.reverse_cons, numOf_snoc]

set_option maxRecDepth 100000 in
theorem octet_little (s : ByteArray) (w : World) (hs : s.size ≤ maxLen) :
    Calls Try.prog 27 #[.string s] w fun e w' => e = .returned (.int .u64 (littleS s)) ∧ w = w' := by
  unfold maxLen at hs
  by_cases h : 8 < s.size
  · have hd : decide (8 < (s.size : Int)) = true := by simp; omega
    go_enter Try.func27, Try.ntmps27
    go_wp2
    have hts : (s.extract 0 8).size ≤ 8 := by simp; omega
    have hmin : min 8 s.size = (s.extract 0 8).size := by simp
    have HT : Hid (littleS s = numOf (s.extract 0 8).data.toList.reverse) := by
      unfold littleS
      rw [ByteArray.data_extract, Array.toList_extract]
      rfl
    rw [hmin]
    clear hmin
    generalize s.extract 0 8 = t at *
    clear hd
    go_loop [3, 4] (fun v i => ∃ (r : Nat) (V : Int), r ≤ t.size ∧ i = .int .i64 ((r : Int) - 1) ∧ v = .int .u64 V ∧ Hid (V = numOf (t.data.toList.drop r).reverse)) (fun _ i => (intOf i + 1).toNat)
    case atStart => exact ⟨t.size, 0, Nat.le_refl _, rfl, rfl, by rw [List.drop_of_length_le (by simp)]; rfl⟩
    case round =>
      obtain ⟨r, V, hk, rfl, rfl, HV⟩ := hrel
      by_cases hlt : 0 < r
      · obtain ⟨q, rfl⟩ : ∃ q, r = q + 1 := ⟨r - 1, by omega⟩
        have hq : q < t.size := by omega
        have hb : 0 ≤ V ∧ V ≤ 72057594037927935 := by rw [HV.out]; exact numOf_bd7 _ (by simp; omega)
        have hor := or256 V t[q] hb.1 hb.2
        have hb0 := hb.1
        have hb1 := hb.2
        clear hb
        have hby : (t[q].toNat : Int) < 256 := by have := t[q].toNat_lt; omega
        have HN : Hid (V * 256 + (t[q].toNat : Int) = numOf (t.data.toList.drop q).reverse) := by
          show _ = _; rw [rev_snoc t q hq, HV.out]
        have hcast : ((q + 1 : Nat) : Int) - 1 = (q : Int) := by omega
        rw [hcast]
        go_wp2
        go_round
        case rel => exact ⟨q, V * 256 + (t[q].toNat : Int), by omega, by go_num, rfl, HN⟩
        case measure => simp [intOf]
      · obtain rfl : r = 0 := by omega
        go_wp2
        go_ret
        exact ⟨ret_int (by rw [HT.out, HV.out]; rfl), rfl⟩
  · have hd : decide (8 < (s.size : Int)) = false := by simp; omega
    have hts : s.size ≤ 8 := by omega
    have HT : Hid (littleS s = numOf s.data.toList.reverse) := by
      unfold littleS
      rw [List.take_of_length_le (by simpa using hts)]; rfl
    clear h
    generalize s = t at *
    go_enter Try.func27, Try.ntmps27
    go_wp2
    clear hd
    go_loop [3, 4] (fun v i => ∃ (r : Nat) (V : Int), r ≤ t.size ∧ i = .int .i64 ((r : Int) - 1) ∧ v = .int .u64 V ∧ Hid (V = numOf (t.data.toList.drop r).reverse)) (fun _ i => (intOf i + 1).toNat)
    case atStart => exact ⟨t.size, 0, Nat.le_refl _, rfl, rfl, by rw [List.drop_of_length_le (by simp)]; rfl⟩
    case round =>
      obtain ⟨r, V, hk, rfl, rfl, HV⟩ := hrel
      by_cases hlt : 0 < r
      · obtain ⟨q, rfl⟩ : ∃ q, r = q + 1 := ⟨r - 1, by omega⟩
        have hq : q < t.size := by omega
        have hb : 0 ≤ V ∧ V ≤ 72057594037927935 := by rw [HV.out]; exact numOf_bd7 _ (by simp; omega)
        have hor := or256 V t[q] hb.1 hb.2
        have hb0 := hb.1
        have hb1 := hb.2
        clear hb
        have hby : (t[q].toNat : Int) < 256 := by have := t[q].toNat_lt; omega
        have HN : Hid (V * 256 + (t[q].toNat : Int) = numOf (t.data.toList.drop q).reverse) := by
          show _ = _; rw [rev_snoc t q hq, HV.out]
        have hcast : ((q + 1 : Nat) : Int) - 1 = (q : Int) := by omega
        rw [hcast]
        go_wp2
        go_round
        case rel => exact ⟨q, V * 256 + (t[q].toNat : Int), by omega, by go_num, rfl, HN⟩
        case measure => simp [intOf]
      · obtain rfl : r = 0 := by omega
        go_wp2
        go_ret
        exact ⟨ret_int (by rw [HT.out, HV.out]; rfl), rfl⟩

end Go.Proofs.Ytjccdfnhcifgiaa
