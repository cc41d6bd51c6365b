/-
  The contracts of package octet's plain functions: Left, isWidth, byteAt, digit, digitValue; the reference's Left.
-/
import Derived.Test.YtlhlpcfjoccgcaaProg
import Derived.Test.YtlhlpcfjoccgcaaOct0
import Derived.WalkKit
namespace Go.Proofs.Ytlhlpcfjoccgcaa
open Go.RowKit
set_option linter.unusedVariables false
set_option maxRecDepth 100000

theorem ret_int {k : IntKind} {a b : Int} (h : a = b) : Ending.returned (.int k a) = .returned (.int k b) := by rw [h]

theorem octet_left (x n : Int) (w : World) (h0 : 0 ≤ x) (h1 : x < 4294967296) :
    Calls Try.prog 95 #[.int .u32 x, .int .i64 n] w fun e w' => e = .returned (.int .u32 (rotl x n)) ∧ w = w' := by
  have hk := and31 n
  have hm : Hid (rotl x n = rotl x (n % 32)) := rotl_mod x n (n % 32) (by omega)
  have hk0 : 0 ≤ n % 32 := by omega
  have hk1 : n % 32 < 32 := by omega
  generalize n % 32 = k at *
  go_enter Try.func95, Try.ntmps95
  go_wp2
  go_ret
  exact ⟨ret_int (by rw [or_rotl x k h0 h1 hk0 hk1, hm.out]), rfl⟩

theorem octet_isWidth (n : Int) (w : World) :
    Calls Try.prog 42 #[.int .i64 n] w fun e w' => e = .returned (.bool (decide (1 ≤ n ∧ n ≤ 8))) ∧ w = w' := by
  by_cases h : 1 ≤ n <;> by_cases h' : n ≤ 8
  all_goals
    go_enter Try.func42, Try.ntmps42
    go_wp2
    go_ret
    exact ⟨by simp [h, h'], rfl⟩

theorem octet_byteAt (v : Int) (i : Int) (w : World) (h0 : 0 ≤ v) (h1 : v < 18446744073709551616) (i0 : 0 ≤ i) (i1 : i ≤ 7) :
    Calls Try.prog 43 #[.int .u64 v, .int .i64 i] w fun e w' => e = .returned (.int .u8 ((byteOf v i.toNat).toNat : Int)) ∧ w = w' := by
  go_enter Try.func43, Try.ntmps43
  go_wp2
  go_ret
  exact ⟨ret_int (by rw [byteOf_val, show (8 * i).toNat = 8 * i.toNat from by omega]), rfl⟩

theorem ret_ib {k : IntKind} {a b : Int} {c d : Bool} (h : a = b) (h' : c = d) : Ending.returned (.tuple #[.int k a, .bool c]) = .returned (.tuple #[.int k b, .bool d]) := by rw [h, h']

theorem tmod_back (n : Int) : (wrap64 (n.tmod 32 + 32)).tmod 32 = n % 32 := by
  have h1 : -32 < n.tmod 32 ∧ n.tmod 32 < 32 := ⟨Int.lt_tmod_of_pos n (by decide), Int.tmod_lt_of_pos n (by decide)⟩
  have h2 := Int.tmod_eq_emod (a := n) (b := 32)
  have h3 : wrap64 (n.tmod 32 + 32) = n.tmod 32 + 32 := IntWalk.wrap64_in _ ⟨by omega, by omega⟩
  rw [h3, Int.tmod_eq_emod_of_nonneg (by omega), h2]
  split <;> omega

theorem ref_left (x n : Int) (w : World) (h0 : 0 ≤ x) (h1 : x < 4294967296) :
    Calls Try.prog 55 #[.int .u32 x, .int .i64 n] w fun e w' => e = .returned (.int .u32 (rotl x n)) ∧ w = w' := by
  have hk := tmod_back n
  have hm : Hid (rotl x n = rotl x (n % 32)) := rotl_mod x n (n % 32) (by omega)
  have hk0 : 0 ≤ n % 32 := by omega
  have hk1 : n % 32 < 32 := by omega
  generalize n % 32 = k at *
  by_cases hz : k = 0
  · subst hz
    go_enter Try.func55, Try.ntmps55
    go_wp2
    go_ret
    exact ⟨ret_int (by rw [hm.out, rotl_zero x 0 h0 h1 rfl]), rfl⟩
  · have hb : (k == 0) = false := beq_eq_false_iff_ne.2 hz
    go_enter Try.func55, Try.ntmps55
    go_wp2
    go_ret
    exact ⟨ret_int (by rw [or_rotl x k h0 h1 hk0 hk1, hm.out]), rfl⟩
end Go.Proofs.Ytlhlpcfjoccgcaa
