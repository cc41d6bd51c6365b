/-
  Laws of chapter 12 over what package ratchet's functions tell: RatchetNonces.
-/
import Derived.Test.YtlhlpcfjoccgcaaRat2
import Derived.Test.YtlhlpcfjoccgcaaOct12
import Derived.Deep.RegionHeld3
namespace Go.Proofs.Ytlhlpcfjoccgcaa
open Go.RowKit
set_option linter.unusedVariables false
set_option maxRecDepth 100000
set_option linter.unusedSimpArgs false

def opConv12 (x : Operand) : Op := Op.convert 37 9 x
theorem opConv12_is (x : Operand) : Op.convert 37 9 x = opConv12 x := rfl
theorem opConv12_back (x : Operand) : opConv12 x = Op.convert 37 9 x := rfl
theorem make8_four (w : World) : (Instr.makeSlice 37 (.int .i64 4) (.int .i64 4)).run Try.prog w = .ok (.slice (some ⟨w.heap.size, 0, none⟩) 4 4) (w.alloc (zeroRow 4)) := make8 4 (by decide) w
theorem nonceR_front {seq : Int} (h : 0 ≤ seq) : (nonceR seq).extract 0 4 = zeros 4 := by
  rw [nonceR_yes h, show zeros 4 = str (List.replicate 4 0) from rfl]
  apply ByteArray.ext
  rw [ByteArray.data_extract]
  apply Array.toList_inj.1
  rw [Array.toList_extract]
  simp [str]

set_option maxRecDepth 100000 in
set_option maxHeartbeats 2000000 in
theorem ratchetNonces_of (K : RatchetKeeps) (a b0 : Int) (w : World) (ha : -9223372036854775808 ≤ a ∧ a ≤ 9223372036854775807) (hb : -9223372036854775808 ≤ b0 ∧ b0 ≤ 9223372036854775807) : Calls Try.prog 7 #[.int .i64 a, .int .i64 b0] w fun e w' => e = .returned (.bool true) ∧ Below w.heap.size w w' := by
  have PA : Hid _ := alive12_of K
  by_cases c0 : a < 0
  · have d0 : decide (a < 0) = true := decide_eq_true c0
    go_enter Try.func7, Try.ntmps7
    go_wp2_with fail
    with_reducible refine (PA.out _).mono ?_
    rintro e w1 ⟨rfl, b⟩
    go_wp2
    go_ret
    exact ⟨rfl, b⟩
  have d0 : decide (a < 0) = false := decide_eq_false c0
  by_cases c1 : b0 ≤ a
  · have d1 : decide (b0 ≤ a) = true := decide_eq_true c1
    go_enter Try.func7, Try.ntmps7
    go_wp2_with fail
    with_reducible refine (PA.out _).mono ?_
    rintro e w1 ⟨rfl, b⟩
    go_wp2
    go_ret
    exact ⟨rfl, b⟩
  have d1 : decide (b0 ≤ a) = false := decide_eq_false c1
  have P1 : Hid _ := fun w => K.nonce a w ha.1 ha.2
  have P2 : Hid _ := fun w => K.nonce b0 w hb.1 hb.2
  have P30 := fun w => K.nonce (-1) w (by decide) (by decide)
  rw [nonceR_no (by decide)] at P30
  have P3 : Hid _ := P30
  have sa := nonceR_size (show 0 ≤ a by omega)
  have sb := nonceR_size (show 0 ≤ b0 by omega)
  have hl := nonceR_less (show 0 ≤ a by omega) (show a < b0 by omega) (by omega)
  have hf := nonceR_front (show 0 ≤ a by omega)
  have HS : ∀ w : World, (Instr.slice 9 (.string (nonceR a)) none (some (.int .i64 4)) none).run Try.prog w = .ok (.string (zeros 4)) w := fun w => by
    have h1 := run_slice_string_h (P := Try.prog) (w := w) (t := 9) (s := nonceR a) Try.underlying9 .i64 4 (by omega) (by omega)
    rw [show (4 : Int).toNat = 4 from rfl, hf] at h1
    exact h1
  have hmk := make8_four
  have hcv := conv_new 4 (by decide)
  have hcvd := conv_new_drew 4 (by decide)
  have e5 := str_beq_self ⟨#[]⟩
  have e7 := empty_isR
  have e8 := empty_toR
  have e9 := str_beq_self (zeros 4)
  clear hf P30
  generalize nonceR a = NA at *
  generalize nonceR b0 = NB at *
  generalize zeros 4 = Z at *
  go_enter Try.func7, Try.ntmps7
  go_wp2_with fail
  with_reducible refine (PA.out _).mono ?_
  rintro e w1 ⟨rfl, b1⟩
  go_wp2_with fail
  with_reducible refine (P1.out _).mono ?_
  rintro e x61 ⟨rfl, b2⟩
  replace b1 := bel12 b1 b2
  clear b2
  go_wp2_with fail
  with_reducible refine (P2.out _).mono ?_
  rintro e x62 ⟨rfl, b2⟩
  replace b1 := bel12 b1 b2
  clear b2
  go_wp2_with fail
  simp only [opConv12_is]
  have hop := opConv12_back
  go_region_held3 (fun w' => True) (exact True.intro) (first | (go_at_call 15; with_reducible refine (P3.out _).mono ?_; rintro e w9 ⟨rfl, b9⟩))
  all_goals
    have b8 := (b1.alloc b1.size (zeroRow 4)).drew
    have b10 := b8.trans (b9.mono b8.size)
    clear b9 b8
    go_wp2
    go_ret
    exact ⟨rfl, b10⟩

end Go.Proofs.Ytlhlpcfjoccgcaa
