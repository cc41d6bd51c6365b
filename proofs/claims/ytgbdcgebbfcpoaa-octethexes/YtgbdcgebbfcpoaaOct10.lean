/-
  The laws' own first call 'alive' answers true.
-/
import Derived.Test.YtgbdcgebbfcpoaaOct7
import Derived.Test.YtgbdcgebbfcpoaaOct9
namespace Go.Proofs.Ytgbdcgebbfcpoaa
open Go.RowKit
set_option linter.unusedVariables false

theorem bel_chain {w w1 w2 : World} (h1 : Below w.heap.size w w1) (h2 : Below w1.heap.size w1 w2) : Below w.heap.size w w2 := h1.trans (h2.mono h1.size)

set_option maxHeartbeats 1000000 in
set_option maxRecDepth 100000 in
theorem alive_any (w : World) :
    Calls Try.prog 9 #[] w fun e w' => e = .returned (.bool true) ∧ Below w.heap.size w w' := by
  have e1 : rotl 1 33 = 2 := by decide +kernel
  have e2 : putBigS 258 4 = ⟨#[0, 0, 1, 2]⟩ := by decide +kernel
  have e3 : unhexS ⟨#[48, 48, 102, 102]⟩ = ⟨#[0, 255]⟩ := by decide +kernel
  have e4 : unhexOk ⟨#[48, 48, 102, 102]⟩ = true := by decide +kernel
  have e5 : hexS ⟨#[0, 255]⟩ = ⟨#[48, 48, 102, 102]⟩ := by decide +kernel
  have e6 : xorS ⟨#[97, 98]⟩ ⟨#[97]⟩ = ⟨#[0]⟩ := by decide +kernel
  go_enter Try.func9, Try.ntmps9
  go_wp2_with fail
  refine (octet_unhex _ _ (by decide)).mono ?_
  rintro e w1 ⟨rfl, b1⟩
  rw [e3, e4]
  go_wp2_with fail
  refine (octet_left _ _ _ (by decide) (by decide)).mono ?_
  rintro e w' ⟨rfl, rfl⟩
  rw [e1]
  go_wp2_with fail
  refine (octet_putBig _ _ _ (by decide) (by decide)).mono ?_
  rintro e w2 ⟨rfl, b2⟩
  rw [e2]
  go_wp2_with fail
  refine (octet_hex _ _ (by decide)).mono ?_
  rintro e w3 ⟨rfl, b3⟩
  rw [e5]
  go_wp2_with fail
  refine (octet_xor _ _ _ (by decide) (by decide)).mono ?_
  rintro e w4 ⟨rfl, b4⟩
  rw [e6]
  go_wp2
  go_ret
  exact ⟨rfl, bel_chain (bel_chain (bel_chain b1 b2) b3) b4⟩

end Go.Proofs.Ytgbdcgebbfcpoaa
