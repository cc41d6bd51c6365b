/-
  Parts of this proof, one behind the other: Oct1, Sha1, Mod0.
-/
import Derived.Test.YtgeackoaghkgmaaProg
import Derived.Test.YtgeackoaghkgmaaBun1
import Derived.WalkKit

/-
  The contracts of package octet's plain functions: Left, isWidth, byteAt, digit, digitValue; the reference's Left.
-/
namespace Go.Proofs.Ytgeackoaghkgmaa
open Go.RowKit
set_option linter.unusedVariables false
set_option maxRecDepth 100000

theorem ret_int {k : IntKind} {a b : Int} (h : a = b) : Ending.returned (.int k a) = .returned (.int k b) := by rw [h]

theorem octet_left (x n : Int) (w : World) (h0 : 0 ≤ x) (h1 : x < 4294967296) :
    Calls Try.prog 76 #[.int .u32 x, .int .i64 n] w fun e w' => e = .returned (.int .u32 (rotl x n)) ∧ w = w' := by
  have hk := and31 n
  have hm : Hid (rotl x n = rotl x (n % 32)) := rotl_mod x n (n % 32) (by omega)
  have hk0 : 0 ≤ n % 32 := by omega
  have hk1 : n % 32 < 32 := by omega
  generalize n % 32 = k at *
  go_enter Try.func76, Try.ntmps76
  go_wp2
  go_ret
  exact ⟨ret_int (by rw [or_rotl x k h0 h1 hk0 hk1, hm.out]), rfl⟩

theorem octet_isWidth (n : Int) (w : World) :
    Calls Try.prog 65 #[.int .i64 n] w fun e w' => e = .returned (.bool (decide (1 ≤ n ∧ n ≤ 8))) ∧ w = w' := by
  by_cases h : 1 ≤ n <;> by_cases h' : n ≤ 8
  all_goals
    go_enter Try.func65, Try.ntmps65
    go_wp2
    go_ret
    exact ⟨by simp [h, h'], rfl⟩

theorem octet_byteAt (v : Int) (i : Int) (w : World) (h0 : 0 ≤ v) (h1 : v < 18446744073709551616) (i0 : 0 ≤ i) (i1 : i ≤ 7) :
    Calls Try.prog 66 #[.int .u64 v, .int .i64 i] w fun e w' => e = .returned (.int .u8 ((byteOf v i.toNat).toNat : Int)) ∧ w = w' := by
  go_enter Try.func66, Try.ntmps66
  go_wp2
  go_ret
  exact ⟨ret_int (by rw [byteOf_val, show (8 * i).toNat = 8 * i.toNat from by omega]), rfl⟩

theorem ret_ib {k : IntKind} {a b : Int} {c d : Bool} (h : a = b) (h' : c = d) : Ending.returned (.tuple #[.int k a, .bool c]) = .returned (.tuple #[.int k b, .bool d]) := by rw [h, h']

theorem tmod_back (n : Int) : (wrap64 (n.tmod 32 + 32)).tmod 32 = n % 32 := by
  have h1 : -32 < n.tmod 32 ∧ n.tmod 32 < 32 := ⟨Int.lt_tmod_of_pos n (by decide), Int.tmod_lt_of_pos n (by decide)⟩
  have h2 := Int.tmod_eq_emod (a := n) (b := 32)
  have h3 : wrap64 (n.tmod 32 + 32) = n.tmod 32 + 32 := IntWalk.wrap64_in _ ⟨by omega, by omega⟩
  rw [h3, Int.tmod_eq_emod_of_nonneg (by omega), h2]
  split <;> omega

theorem ref_left (x n : Int) (w : World) (h0 : 0 ≤ x) (h1 : x < 4294967296) :
    Calls Try.prog 58 #[.int .u32 x, .int .i64 n] w fun e w' => e = .returned (.int .u32 (rotl x n)) ∧ w = w' := by
  have hk := tmod_back n
  have hm : Hid (rotl x n = rotl x (n % 32)) := rotl_mod x n (n % 32) (by omega)
  have hk0 : 0 ≤ n % 32 := by omega
  have hk1 : n % 32 < 32 := by omega
  generalize n % 32 = k at *
  by_cases hz : k = 0
  · subst hz
    go_enter Try.func58, Try.ntmps58
    go_wp2
    go_ret
    exact ⟨ret_int (by rw [hm.out, rotl_zero x 0 h0 h1 rfl]), rfl⟩
  · have hb : (k == 0) = false := beq_eq_false_iff_ne.2 hz
    go_enter Try.func58, Try.ntmps58
    go_wp2
    go_ret
    exact ⟨ret_int (by rw [or_rotl x k h0 h1 hk0 hk1, hm.out]), rfl⟩
end Go.Proofs.Ytgeackoaghkgmaa

/-
  The contracts of package digest's plain functions of words: right, sigma0, sigma1, bigSigma0, bigSigma1.
-/
namespace Go.Proofs.Ytgeackoaghkgmaa
open Go.RowKit
set_option linter.unusedVariables false
set_option maxRecDepth 100000

end Go.Proofs.Ytgeackoaghkgmaa

/-
  Plain: a number taken round a greater one, below zero too.
-/
namespace Go.Proofs.Ytgeackoaghkgmaa
open Go.RowKit
set_option linter.unusedVariables false
set_option maxRecDepth 100000

theorem mod_back3 (a M : Int) (h0 : 0 < M) (h1 : M ≤ 400) : (wrap64 (a.tmod M + M)).tmod M = a % M := by
  have h2 : -M < a.tmod M ∧ a.tmod M < M := ⟨Int.lt_tmod_of_pos a h0, Int.tmod_lt_of_pos a h0⟩
  have h3 : wrap64 (a.tmod M + M) = a.tmod M + M := IntWalk.wrap64_in _ ⟨by omega, by omega⟩
  have h4 := Int.tmod_eq_emod (a := a) (b := M)
  rw [h3, Int.tmod_eq_emod_of_nonneg (by omega), h4]
  split
  · rw [show a % M - ((0 : Nat) : Int) = a % M from by omega, Int.add_emod_right, Int.emod_emod_of_dvd a (Int.dvd_refl M)]
  · rw [show a % M - (M.natAbs : Int) + M = a % M from by omega, Int.emod_emod_of_dvd a (Int.dvd_refl M)]

end Go.Proofs.Ytgeackoaghkgmaa
