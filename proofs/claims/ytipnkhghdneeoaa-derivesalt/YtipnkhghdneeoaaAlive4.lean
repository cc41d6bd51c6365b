/-
  The laws' own first call 'alive' of chapter 4 answers true; plain facts on what is expanded.
-/
import Derived.Test.YtipnkhghdneeoaaDer2
import Derived.Deep.RegionHeld3
namespace Go.Proofs.Ytipnkhghdneeoaa
open Go.RowKit
set_option linter.unusedVariables false
set_option maxRecDepth 100000

theorem expS_take (k i : ByteArray) (n m : Nat) (h : n ≤ m) : (expS k i m).extract 0 n = expS k i n := by
  unfold expS
  rw [str_take, expL_take _ _ _ _ h]
theorem expS_none (k i : ByteArray) : expS k i 0 = ⟨#[]⟩ := str_none _ (expS_size k i 0)
theorem expL_first (k i : List UInt8) : expL k i 32 = macL k (i ++ [1]) := by
  have := parts_take k i 32 1 (by decide)
  rw [← this, List.take_of_length_le (by rw [partsL_len]; decide)]
  rfl
theorem expS_first (k i : ByteArray) : expS k i 32 = macS k (i ++ ⟨#[1]⟩) := by
  unfold expS macS
  rw [expL_first]
  congr 2

/-- The parts as strings. -/
def partS (k i : ByteArray) (j : Nat) : ByteArray := str (partL k.data.toList i.data.toList j)
theorem partS_size (k i : ByteArray) (j : Nat) : (partS k i (j + 1)).size = 32 := by rw [partS, str_size, partL_len]
theorem partS_one (k i : ByteArray) : partS k i 1 = macS k (i ++ ⟨#[1]⟩) := by
  unfold partS macS
  congr 2
theorem partS_next (k i n : ByteArray) (j : Nat) (hn : n.data.toList = [UInt8.ofNat (j + 1)]) : partS k i (j + 1) = macS k ((partS k i j ++ i) ++ n) := by
  unfold partS macS
  rw [partL]
  congr 2
  rw [ByteArray.data_append, ByteArray.data_append, Array.toList_append, Array.toList_append, str_list, hn]
theorem expS_three (k i : ByteArray) : (partS k i 1 ++ partS k i 2) ++ partS k i 3 = expS k i 96 := by
  unfold expS partS
  rw [← parts_take _ _ 96 3 (by decide), List.take_of_length_le (by rw [partsL_len]; decide), str_cat, str_cat]
  rfl
theorem extS_zeros (s : ByteArray) : extS (zeros 32) s = extS ⟨#[]⟩ s := by
  rw [extS_empty, extS_other _ _ (by intro e; have := congrArg ByteArray.size e; rw [zeros_size] at this; exact absurd this (by decide))]
  rfl

set_option maxHeartbeats 1000000 in
theorem alive4_any (w : World) :
    Calls Try.prog 8 #[] w fun e w' => e = .returned (.bool true) ∧ Below w.heap.size w w' := by
  have p1 := fun w => derive_expand ⟨#[107]⟩ ⟨#[105]⟩ 40 w (by decide) (by decide) (by decide)
  have p2 := fun w => derive_expand ⟨#[107]⟩ ⟨#[105]⟩ 0 w (by decide) (by decide) (by decide)
  have pm := fun w => ref_mac ⟨#[107]⟩ ⟨#[105, 1]⟩ w (by decide) (by decide)
  have pk := fun w => derive_key ⟨#[97]⟩ ⟨#[98]⟩ ⟨#[99]⟩ w (by decide) (by decide) (by decide)
  have hk := keyS_size ⟨#[97]⟩ ⟨#[98]⟩ ⟨#[99]⟩
  have hs := expS_size ⟨#[107]⟩ ⟨#[105]⟩ 40
  have hx : (expS ⟨#[107]⟩ ⟨#[105]⟩ 40).extract 0 32 = macS ⟨#[107]⟩ ⟨#[105, 1]⟩ := by
    rw [expS_take _ _ _ _ (by decide), expS_first]
    congr 1
  rw [expS_none] at p2
  have hself := str_beq_self (macS ⟨#[107]⟩ ⟨#[105, 1]⟩)
  generalize expS ⟨#[107]⟩ ⟨#[105]⟩ 40 = s at *
  generalize macS ⟨#[107]⟩ ⟨#[105, 1]⟩ = m at *
  generalize keyS ⟨#[97]⟩ ⟨#[98]⟩ ⟨#[99]⟩ = k at *
  have P1 : Hid _ := p1
  have P2 : Hid _ := p2
  have PM : Hid _ := pm
  have PK : Hid _ := pk
  clear p1 p2 pm pk
  go_enter Try.func8, Try.ntmps8
  go_wp2_with fail
  refine (P1.out _).mono ?_
  rintro e w1 ⟨rfl, b⟩
  go_wp2_with fail
  refine (P2.out _).mono ?_
  rintro e w2 ⟨rfl, b2⟩
  replace b := bel_chain b b2
  clear b2
  go_wp2_with fail
  replace b := b.drew
  go_region_held3 (fun w' => True) (exact True.intro) (first | (go_at_call 15; refine (PM.out _).mono ?_; rintro e w5 ⟨rfl, b5⟩; replace b := bel_chain b b5; clear b5) | (go_at_call 13; refine (PK.out _).mono ?_; rintro e w5 ⟨rfl, b5⟩; replace b := bel_chain b b5; clear b5))
  all_goals
    go_wp2
    go_ret
    exact ⟨rfl, b⟩

end Go.Proofs.Ytipnkhghdneeoaa
