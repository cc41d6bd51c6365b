/-
  Parts of this proof, one behind the other: Oct1.
-/
import Derived.Test.YtgcbanmjfnnccaaGreatProg
import Derived.Test.YtgcbanmjfnnccaaGreatBun1
import Derived.WalkKit

/-
  The contracts of package octet's plain functions: Left, isWidth, byteAt, digit, digitValue; the reference's Left.
-/
namespace Go.Proofs.YtgcbanmjfnnccaaGreat
open Go.RowKit
set_option linter.unusedVariables false
set_option maxRecDepth 100000

theorem ret_int {k : IntKind} {a b : Int} (h : a = b) : Ending.returned (.int k a) = .returned (.int k b) := by rw [h]

theorem octet_isWidth (n : Int) (w : World) :
    Calls Tryz.prog 67 #[.int .i64 n] w fun e w' => e = .returned (.bool (decide (1 ≤ n ∧ n ≤ 8))) ∧ w = w' := by
  by_cases h : 1 ≤ n <;> by_cases h' : n ≤ 8
  all_goals
    go_enter Tryz.func67, Tryz.ntmps67
    go_wp2
    go_ret
    exact ⟨by simp [h, h'], rfl⟩

theorem octet_byteAt (v : Int) (i : Int) (w : World) (h0 : 0 ≤ v) (h1 : v < 18446744073709551616) (i0 : 0 ≤ i) (i1 : i ≤ 7) :
    Calls Tryz.prog 68 #[.int .u64 v, .int .i64 i] w fun e w' => e = .returned (.int .u8 ((byteOf v i.toNat).toNat : Int)) ∧ w = w' := by
  go_enter Tryz.func68, Tryz.ntmps68
  go_wp2
  go_ret
  exact ⟨ret_int (by rw [byteOf_val, show (8 * i).toNat = 8 * i.toNat from by omega]), rfl⟩

theorem ret_ib {k : IntKind} {a b : Int} {c d : Bool} (h : a = b) (h' : c = d) : Ending.returned (.tuple #[.int k a, .bool c]) = .returned (.tuple #[.int k b, .bool d]) := by rw [h, h']

theorem tmod_back (n : Int) : (wrap64 (n.tmod 32 + 32)).tmod 32 = n % 32 := by
  have h1 : -32 < n.tmod 32 ∧ n.tmod 32 < 32 := ⟨Int.lt_tmod_of_pos n (by decide), Int.tmod_lt_of_pos n (by decide)⟩
  have h2 := Int.tmod_eq_emod (a := n) (b := 32)
  have h3 : wrap64 (n.tmod 32 + 32) = n.tmod 32 + 32 := IntWalk.wrap64_in _ ⟨by omega, by omega⟩
  rw [h3, Int.tmod_eq_emod_of_nonneg (by omega), h2]
  split <;> omega

end Go.Proofs.YtgcbanmjfnnccaaGreat
