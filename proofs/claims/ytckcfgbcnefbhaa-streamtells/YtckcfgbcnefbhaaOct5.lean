/-
  The contracts of the reference's Big and Little.
-/
import Derived.Test.YtckcfgbcnefbhaaOct4
namespace Go.Proofs.Ytckcfgbcnefbhaa
open Go.RowKit
set_option linter.unusedVariables false
set_option maxRecDepth 100000

theorem take_drop_snoc (s : ByteArray) (m k : Nat) (hm : m ≤ k) (h : k < s.size) : numOf ((s.data.toList.take (k + 1)).drop m) = numOf ((s.data.toList.take k).drop m) * 256 + (s[k].toNat : Int) := by
  rw [take_snoc s k h, List.drop_append_of_le_length (by simp; omega), numOf_snoc]

theorem take_rev_snoc (s : ByteArray) (m r : Nat) (hm : r < m) (h : r < s.size) : numOf ((s.data.toList.take m).drop r).reverse = numOf ((s.data.toList.take m).drop (r + 1)).reverse * 256 + (s[r].toNat : Int) := by
  rw [List.drop_eq_getElem_cons (by simp; omega), List.reverse_cons, numOf_snoc]
  simp
  rfl

set_option maxRecDepth 100000 in
theorem ref_little (s : ByteArray) (w : World) (hs : s.size ≤ maxLen) :
    Calls Try.prog 30 #[.string s] w fun e w' => e = .returned (.int .u64 (littleS s)) ∧ w = w' := by
  unfold maxLen at hs
  obtain ⟨m, hm⟩ : ∃ m : Nat, m = min s.size 8 := ⟨_, rfl⟩
  have HT : Hid (littleS s = numOf (s.data.toList.take m).reverse) := by
    unfold littleS; rw [hm]
    by_cases h : s.size ≤ 8
    · rw [Nat.min_eq_left h, List.take_of_length_le (by simp; omega), List.take_of_length_le (by simp)]; rfl
    · rw [Nat.min_eq_right (by omega)]; rfl
  have hm1 : m ≤ s.size := by omega
  have hm2 : m ≤ 8 := by omega
  have hmin : min (s.size : Int) 8 = (m : Int) := by omega
  clear hm
  go_enter Try.func30, Try.ntmps30
  go_wp2
  all_goals
    go_loop [3, 4] (fun v i => ∃ (r : Nat) (V : Int), r ≤ m ∧ i = .int .i64 ((r : Int) - 1) ∧ v = .int .u64 V ∧ Hid (V = numOf ((s.data.toList.take m).drop r).reverse)) (fun _ i => (intOf i + 1).toNat)
    case atStart => exact ⟨m, 0, Nat.le_refl _, by congr 1; omega, rfl, by show _ = _; rw [List.drop_of_length_le (by simp; omega)]; rfl⟩
    case round =>
      clear hmin
      obtain ⟨r, V, hk, rfl, rfl, HV⟩ := hrel
      by_cases hlt : 0 < r
      · obtain ⟨q, rfl⟩ : ∃ q, r = q + 1 := ⟨r - 1, by omega⟩
        have hq : q < s.size := by omega
        have hb : 0 ≤ V ∧ V ≤ 72057594037927935 := by rw [HV.out]; exact numOf_bd7 _ (by simp; omega)
        have hb0 := hb.1
        have hb1 := hb.2
        clear hb
        have hby : (s[q].toNat : Int) < 256 := by have := s[q].toNat_lt; omega
        have HN : Hid (V * 256 + (s[q].toNat : Int) = numOf ((s.data.toList.take m).drop q).reverse) := by
          show _ = _; rw [take_rev_snoc s m q (by omega) hq, HV.out]
        have hcast : ((q + 1 : Nat) : Int) - 1 = (q : Int) := by omega
        rw [hcast]
        go_wp2
        go_round
        case rel => exact ⟨q, V * 256 + (s[q].toNat : Int), by omega, by go_num, rfl, HN⟩
        case measure => simp [intOf]
      · obtain rfl : r = 0 := by omega
        go_wp2
        go_ret
        exact ⟨ret_int (by rw [HT.out, HV.out]; rfl), rfl⟩

end Go.Proofs.Ytckcfgbcnefbhaa
