/-
  Laws of chapter 12 over what package ratchet's functions tell: RatchetSessions.
-/
import Derived.Test.YtlhlpcfjoccgcaaRat2
import Derived.Test.YtlhlpcfjoccgcaaRat1
import Derived.Deep.RegionHeld3
namespace Go.Proofs.Ytlhlpcfjoccgcaa
open Go.RowKit
set_option linter.unusedVariables false
set_option maxRecDepth 100000
set_option linter.unusedSimpArgs false

set_option maxRecDepth 100000 in
set_option maxHeartbeats 2000000 in
theorem ratchetSessions_of (K : RatchetKeeps) (secret salt : ByteArray) (w : World) (h1 : secret.size ≤ 9223372036854775807) (h2 : salt.size ≤ 9223372036854775807) : Calls Try.prog 6 #[.string secret, .string salt] w fun e w' => e = .returned (.bool true) ∧ Below w.heap.size w w' := by
  have PA : Hid _ := alive12_of K
  by_cases c0 : 100 < (secret.size : Int)
  · have d0 : decide (100 < (secret.size : Int)) = true := decide_eq_true c0
    go_enter Try.func6, Try.ntmps6
    go_wp2_with fail
    with_reducible refine (PA.out _).mono ?_
    rintro e w1 ⟨rfl, b⟩
    go_wp2
    go_ret
    exact ⟨rfl, b⟩
  have d0 : decide (100 < (secret.size : Int)) = false := decide_eq_false c0
  by_cases c1 : 100 < (salt.size : Int)
  · have d1 : decide (100 < (salt.size : Int)) = true := decide_eq_true c1
    go_enter Try.func6, Try.ntmps6
    go_wp2_with fail
    with_reducible refine (PA.out _).mono ?_
    rintro e w1 ⟨rfl, b⟩
    go_wp2
    go_ret
    exact ⟨rfl, b⟩
  have d1 : decide (100 < (salt.size : Int)) = false := decide_eq_false c1
  have PS : Hid _ := fun w => K.session secret salt w (by omega) (by omega)
  have PU : Hid _ := fun w => ref_key secret salt upW w (by omega) (by omega) (by decide)
  have PD : Hid _ := fun w => ref_key secret salt downW w (by omega) (by omega) (by decide)
  have zU := keyS_size secret salt upW
  have zD := keyS_size secret salt downW
  have e3 := str_beq_self (keyS secret salt upW)
  have e4 := str_beq_self (keyS secret salt downW)
  generalize keyS secret salt upW = U at *
  generalize keyS secret salt downW = D at *
  unfold upW at PU
  unfold downW at PD
  go_enter Try.func6, Try.ntmps6
  go_wp2_with fail
  with_reducible refine (PA.out _).mono ?_
  rintro e w1 ⟨rfl, b1⟩
  go_wp2_with fail
  with_reducible refine (PS.out _).mono ?_
  rintro e w2 ⟨rfl, b2⟩
  replace b1 := bel12 b1 b2
  clear b2
  have R3 := RowIs.new w2 30 [.string U, .string D]
  have b3 : Below w.heap.size w (w2.alloc (.cells #[.string U, .string D] 30)) := b1.alloc b1.size _
  go_wp2_with fail
  generalize hw3 : w2.alloc (.cells #[.string U, .string D] 30) = w3 at *
  have c0 : w3.cell? ⟨w2.heap.size, 0, none⟩ = some (.string U) := R3.cellAt rfl
  have c1 : w3.cell? ⟨w2.heap.size, 1, none⟩ = some (.string D) := R3.cellAt rfl
  have b : Below w3.heap.size w3 w3.drew := (Below.refl _ _).drew
  clear R3 hw3
  go_region_held3 (fun w' => w'.cell? ⟨w2.heap.size, 0, none⟩ = some (.string U) ∧ w'.cell? ⟨w2.heap.size, 1, none⟩ = some (.string D)) (exact ⟨cell12 b c0, cell12 b c1⟩) (first | (go_at_call 18; (first | with_reducible refine (PU.out _).mono ?_ | with_reducible refine (PD.out _).mono ?_); rintro e w5 ⟨rfl, b5⟩; replace b := bel12 b b5; clear b5))
  all_goals
    go_wp2
    go_ret
    exact ⟨rfl, b3.trans (b.mono b3.size)⟩

end Go.Proofs.Ytlhlpcfjoccgcaa
