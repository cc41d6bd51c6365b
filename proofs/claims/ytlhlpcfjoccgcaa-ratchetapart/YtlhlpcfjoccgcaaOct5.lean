/-
  The contracts of the reference's Big and Little.
-/
import Derived.Test.YtlhlpcfjoccgcaaOct4
namespace Go.Proofs.Ytlhlpcfjoccgcaa
open Go.RowKit
set_option linter.unusedVariables false
set_option maxRecDepth 100000

theorem take_drop_snoc (s : ByteArray) (m k : Nat) (hm : m ≤ k) (h : k < s.size) : numOf ((s.data.toList.take (k + 1)).drop m) = numOf ((s.data.toList.take k).drop m) * 256 + (s[k].toNat : Int) := by
  rw [take_snoc s k h, List.drop_append_of_le_length (by simp; omega), numOf_snoc]

set_option maxRecDepth 100000 in
theorem ref_big (s : ByteArray) (w : World) (hs : s.size ≤ maxLen) :
    Calls Try.prog 54 #[.string s] w fun e w' => e = .returned (.int .u64 (bigS s)) ∧ w = w' := by
  unfold maxLen at hs
  obtain ⟨m, hm⟩ : ∃ m : Nat, m = s.size - 8 := ⟨_, rfl⟩
  have HM : Hid (m = s.size - 8) := hm
  have HT : Hid (bigS s = numOf (s.data.toList.drop m)) := by unfold bigS; rw [hm]; rfl
  have hm1 : m ≤ s.size := by omega
  have hm2 : s.size ≤ m + 8 := by omega
  have hmax : max ((s.size : Int) - 8) 0 = (m : Int) := by omega
  clear hm
  go_enter Try.func54, Try.ntmps54
  go_wp2
  all_goals
    go_loop [3, 4] (fun v i => ∃ (k : Nat) (V : Int), m ≤ k ∧ k ≤ s.size ∧ i = .int .i64 k ∧ v = .int .u64 V ∧ Hid (V = numOf ((s.data.toList.take k).drop m))) (fun _ i => s.size - (intOf i).toNat)
    case atStart => exact ⟨m, 0, Nat.le_refl _, hm1, by congr 1; omega, rfl, by show _ = _; rw [List.drop_of_length_le (by simp; omega)]; rfl⟩
    case round =>
      clear hmax
      obtain ⟨k, V, hmk, hk, rfl, rfl, HV⟩ := hrel
      by_cases hlt : k < s.size
      · have hb : 0 ≤ V ∧ V ≤ 72057594037927935 := by rw [HV.out]; exact numOf_bd7 _ (by simp; omega)
        have hb0 := hb.1
        have hb1 := hb.2
        clear hb
        have hby : (s[k].toNat : Int) < 256 := by have := s[k].toNat_lt; omega
        have HN : Hid (V * 256 + (s[k].toNat : Int) = numOf ((s.data.toList.take (k + 1)).drop m)) := by
          show _ = _; rw [take_drop_snoc s m k hmk hlt, HV.out]
        go_wp2
        go_round
        case rel => exact ⟨k + 1, V * 256 + (s[k].toNat : Int), by omega, by omega, by go_num, rfl, HN⟩
        case measure => simp [intOf]; omega
      · go_wp2
        go_ret
        exact ⟨ret_int (by rw [HT.out, HV.out, List.take_of_length_le (by simp; omega)]), rfl⟩

theorem take_rev_snoc (s : ByteArray) (m r : Nat) (hm : r < m) (h : r < s.size) : numOf ((s.data.toList.take m).drop r).reverse = numOf ((s.data.toList.take m).drop (r + 1)).reverse * 256 + (s[r].toNat : Int) := by
  rw [List.drop_eq_getElem_cons (by simp; omega), List.reverse_cons, numOf_snoc]
  simp
  rfl

end Go.Proofs.Ytlhlpcfjoccgcaa
