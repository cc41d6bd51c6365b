/-
  The contracts of package digest's plain functions of words: right, sigma0, sigma1, bigSigma0, bigSigma1.
-/
import Derived.Test.YtlhlpcfjoccgcaaOct1
import Derived.Test.YtlhlpcfjoccgcaaSha0
namespace Go.Proofs.Ytlhlpcfjoccgcaa
open Go.RowKit
set_option linter.unusedVariables false
set_option maxRecDepth 100000

theorem dig_right (x n : Int) (w : World) (h : W32 x) (h0 : 0 ≤ n) (h1 : n ≤ 1000) :
    Calls Try.prog 86 #[.int .u32 x, .int .i64 n] w fun e w' => e = .returned (.int .u32 (rotl x (-n))) ∧ w = w' := by
  go_enter Try.func86, Try.ntmps86
  go_wp2_with (first | (go_at_call 95; refine (octet_left _ _ _ h.1 h.2).mono ?_; rintro e w' ⟨rfl, rfl⟩))
  go_ret
  exact ⟨rfl, rfl⟩

theorem dig_sigma0 (x : Int) (w : World) (h : W32 x) :
    Calls Try.prog 78 #[.int .u32 x] w fun e w' => e = .returned (.int .u32 (sg0 x)) ∧ w = w' := by
  have h0 := h.1
  have h1 := h.2
  go_enter Try.func78, Try.ntmps78
  go_wp2_with (first | (go_at_call 86; refine (dig_right _ _ _ h (by decide) (by decide)).mono ?_; rintro e w' ⟨rfl, rfl⟩))
  go_ret
  exact ⟨ret_int (by rw [bxor_eq (rotl_w _ h) (rotl_w _ h), bxor_eq (xorI_w (rotl_w _ h) (rotl_w _ h)) (div_w _ h (by decide))]; rfl), rfl⟩

theorem dig_sigma1 (x : Int) (w : World) (h : W32 x) :
    Calls Try.prog 79 #[.int .u32 x] w fun e w' => e = .returned (.int .u32 (sg1 x)) ∧ w = w' := by
  have h0 := h.1
  have h1 := h.2
  go_enter Try.func79, Try.ntmps79
  go_wp2_with (first | (go_at_call 86; refine (dig_right _ _ _ h (by decide) (by decide)).mono ?_; rintro e w' ⟨rfl, rfl⟩))
  go_ret
  exact ⟨ret_int (by rw [bxor_eq (rotl_w _ h) (rotl_w _ h), bxor_eq (xorI_w (rotl_w _ h) (rotl_w _ h)) (div_w _ h (by decide))]; rfl), rfl⟩

theorem dig_bigSigma0 (x : Int) (w : World) (h : W32 x) :
    Calls Try.prog 81 #[.int .u32 x] w fun e w' => e = .returned (.int .u32 (bs0 x)) ∧ w = w' := by
  go_enter Try.func81, Try.ntmps81
  go_wp2_with (first | (go_at_call 86; refine (dig_right _ _ _ h (by decide) (by decide)).mono ?_; rintro e w' ⟨rfl, rfl⟩))
  go_ret
  exact ⟨ret_int (by rw [bxor_eq (rotl_w _ h) (rotl_w _ h), bxor_eq (xorI_w (rotl_w _ h) (rotl_w _ h)) (rotl_w _ h)]; rfl), rfl⟩

theorem dig_bigSigma1 (x : Int) (w : World) (h : W32 x) :
    Calls Try.prog 80 #[.int .u32 x] w fun e w' => e = .returned (.int .u32 (bs1 x)) ∧ w = w' := by
  go_enter Try.func80, Try.ntmps80
  go_wp2_with (first | (go_at_call 86; refine (dig_right _ _ _ h (by decide) (by decide)).mono ?_; rintro e w' ⟨rfl, rfl⟩))
  go_ret
  exact ⟨ret_int (by rw [bxor_eq (rotl_w _ h) (rotl_w _ h), bxor_eq (xorI_w (rotl_w _ h) (rotl_w _ h)) (rotl_w _ h)]; rfl), rfl⟩

end Go.Proofs.Ytlhlpcfjoccgcaa
