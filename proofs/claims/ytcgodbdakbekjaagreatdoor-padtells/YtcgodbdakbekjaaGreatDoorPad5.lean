/-
  Laws of chapter 8 over contracts of package pad: alive, PadOnly, PadSizes.
-/
import Derived.Test.YtcgodbdakbekjaaGreatDoorPad3
import Derived.Test.YtcgodbdakbekjaaGreatDoorRowI
import Derived.Test.YtcgodbdakbekjaaGreatDoorStrEq
namespace Go.Proofs.YtcgodbdakbekjaaGreatDoor
open Go.RowKit
set_option linter.unusedVariables false
set_option maxRecDepth 100000
set_option linter.unusedSimpArgs false

/-- What package pad's functions tell. -/
structure PadKeeps : Prop where
  sizes : ∀ w : World, Calls Tryz.prog 6 #[] w fun e w' => (∃ v, OwnI w' w.heap.size v sizesL ∧ e = .returned v) ∧ Below w.heap.size w w'
  size : ∀ (n : Int) (w : World), -9223372036854775808 ≤ n → n ≤ 9223372036854775807 → Calls Tryz.prog 7 #[.int .i64 n] w fun e w' => e = .returned (.tuple #[.int .i64 (sizeN n), .bool (sizeOk n)]) ∧ Below w.heap.size w w'
  pad : ∀ (b : ByteArray) (w : World), b.size ≤ 1000000 → Calls Tryz.prog 9 #[.string b] w fun e w' => e = .returned (.tuple #[.string (padS b), .bool (padOk b)]) ∧ Below w.heap.size w w'
  unpad : ∀ (b : ByteArray) (w : World), b.size ≤ 1000000 → Calls Tryz.prog 11 #[.string b] w fun e w' => e = .returned (.tuple #[.string (unpadS b), .bool (unpadOk b)]) ∧ Below w.heap.size w w'

theorem bel_chain82 {w w1 w2 : World} (h1 : Below w.heap.size w w1) (h2 : Below w1.heap.size w1 w2) : Below w.heap.size w w2 := h1.trans (h2.mono h1.size)
theorem pad_abc : (padS ⟨#[97, 98, 99]⟩).size = 32 ∧ (padS ⟨#[97, 98, 99]⟩).extract 0 5 = ⟨#[0, 3, 97, 98, 99]⟩ := by decide +kernel

set_option maxHeartbeats 400000 in
theorem alive8_of (K : PadKeeps) (w : World) : Calls Tryz.prog 4 #[] w fun e w' => e = .returned (.bool true) ∧ Below w.heap.size w w' := by
  have P1 : Hid _ := fun w => K.pad ⟨#[97, 98, 99]⟩ w (by decide)
  have p2 := fun w => K.unpad (padS ⟨#[97, 98, 99]⟩) w (by rw [pad_abc.1]; decide)
  rw [(unpad_pad ⟨#[97, 98, 99]⟩ (by decide)).1, (unpad_pad ⟨#[97, 98, 99]⟩ (by decide)).2] at p2
  have P2 : Hid _ := p2
  have P3 : Hid _ := K.sizes
  rw [(padS_yes ⟨#[97, 98, 99]⟩ (by decide)).1] at P1
  have h1 := pad_abc.1
  have h2 := pad_abc.2
  clear p2
  generalize padS ⟨#[97, 98, 99]⟩ = P at *
  have e1 := str_beq_self ⟨#[0, 3, 97, 98, 99]⟩
  have e2 := str_beq_self ⟨#[97, 98, 99]⟩
  go_enter Tryz.func4, Tryz.ntmps4
  go_wp2_with fail
  with_reducible refine (P1.out _).mono ?_
  rintro e w1 ⟨rfl, b⟩
  go_wp2_with fail
  with_reducible refine (P2.out _).mono ?_
  rintro e w' ⟨rfl, b'⟩
  replace b := bel_chain82 b b'
  clear b'
  go_wp2_with fail
  with_reducible refine (P3.out _).mono ?_
  rintro e w2 ⟨⟨v, hv, rfl⟩, b'⟩
  replace b := bel_chain82 b b'
  clear b'
  obtain ⟨ao, co, rfl⟩ := hv.shape
  rw [show sizesL.length = 4 from rfl]
  go_wp2
  go_ret
  exact ⟨rfl, b⟩

/-- The four sizes, in one breath. -/
theorem size_facts (a : Int) (h0 : 0 ≤ a) (h1 : a ≤ 2046) : a + 2 ≤ sizeN a ∧ (sizeN a = 32 ∨ sizeN a / 4 < a + 2) ∧ 32 ≤ sizeN a ∧ sizeN a ≤ 2048 := by
  unfold sizeN
  rw [if_neg (by omega)]
  split
  · omega
  · split
    · omega
    · split
      · omega
      · omega
theorem size_mono (a b : Int) (h0 : 0 ≤ a) (hab : a ≤ b) (h1 : b ≤ 2046) : sizeN a ≤ sizeN b := by
  unfold sizeN
  (repeat' split) <;> omega

end Go.Proofs.YtcgodbdakbekjaaGreatDoor
