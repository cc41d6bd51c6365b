/-
  The laws' own first call 'alive' of chapter 2 answers true.
-/
import Derived.Test.YtjdhmemnigohbaaSha13
import Derived.Test.YtjdhmemnigohbaaOct7
namespace Go.Proofs.Ytjdhmemnigohbaa
open Go.RowKit
set_option linter.unusedVariables false

set_option maxRecDepth 100000 in
theorem sha_abc : hexS (shaS ⟨#[97, 98, 99]⟩) = ⟨#[98, 97, 55, 56, 49, 54, 98, 102, 56, 102, 48, 49, 99, 102, 101, 97, 52, 49, 52, 49, 52, 48, 100, 101, 53, 100, 97, 101, 50, 50, 50, 51, 98, 48, 48, 51, 54, 49, 97, 51, 57, 54, 49, 55, 55, 97, 57, 99, 98, 52, 49, 48, 102, 102, 54, 49, 102, 50, 48, 48, 49, 53, 97, 100]⟩ := by decide +kernel

theorem zeroCells_eq : Try.zeroCells43 = digZero.toArray := by kernel_rfl
theorem fresh_zero (w : World) : DigAt (w.alloc (.cells Try.zeroCells43 43)) w.heap.size [] := by
  rw [zeroCells_eq]; exact fresh_new w

theorem shaS_str (l : List UInt8) : shaS (str l) = str (shaL l) := by unfold shaS str; rfl
/-- What is owed by a world in which a Digest of the call's own lies. -/
theorem upon_below {b : Nat} {u w w' : World} (h : Below u.heap.size u w) (hu : Upon b w w') (hb : u.heap.size ≤ b) : Below u.heap.size u w' :=
  h.trans (hu.below hb h.size)
theorem bel_chain {w w1 w2 : World} (h1 : Below w.heap.size w w1) (h2 : Below w1.heap.size w1 w2) : Below w.heap.size w w2 := h1.trans (h2.mono h1.size)

set_option maxHeartbeats 1000000 in
set_option maxRecDepth 100000 in
theorem alive2_any (w : World) :
    Calls Try.prog 10 #[] w fun e w' => e = .returned (.bool true) ∧ Below w.heap.size w w' := by
  have hfr := fresh_zero w
  have hb0 : Below w.heap.size w (w.alloc (.cells Try.zeroCells43 43)) := (Below.refl _ _).alloc (Nat.le_refl _) _
  have H1 : Hid (hexS (shaS ⟨#[97, 98, 99]⟩) = _) := sha_abc
  have H2 : Hid (str (shaL [97, 98, 99]) = shaS ⟨#[97, 98, 99]⟩) := rfl
  go_enter Try.func10, Try.ntmps10
  go_wp2_with fail
  generalize w.alloc (.cells Try.zeroCells43 43) = w0 at *
  refine (dig_add w.heap.size [] [97] _ hfr (by decide)).mono ?_
  rintro e w1 ⟨rfl, hr1, hu1⟩
  have hb1 := upon_below hb0 hu1 (Nat.le_refl _)
  go_wp2_with fail
  refine (dig_add w.heap.size [97] [98, 99] _ (Or.inl hr1) (by decide)).mono ?_
  rintro e w2 ⟨rfl, hr2, hu2⟩
  have hb2 := upon_below hb1 hu2 (Nat.le_refl _)
  go_wp2_with fail
  refine (digest_sum _ _ (by decide)).mono ?_
  rintro e w3 ⟨rfl, hb3'⟩
  have hb3 := bel_chain hb2 hb3'
  have hr3 := hr2.below hb3'
  go_wp2_with fail
  refine (octet_hex _ _ (by rw [shaS_size]; decide)).mono ?_
  rintro e w4 ⟨rfl, hb4'⟩
  have hb4 := bel_chain hb3 hb4'
  have hr4 := hr3.below hb4'
  rw [H1.out]
  go_wp2_with fail
  refine (dig_sum w.heap.size [97, 98, 99] _ (Or.inl hr4) (by decide)).mono ?_
  rintro e w5 ⟨rfl, hr5, hu5⟩
  have hb5 := upon_below hb4 hu5 (Nat.le_refl _)
  rw [H2.out]
  go_wp2_with fail
  refine (digest_sum _ _ (by decide)).mono ?_
  rintro e w6 ⟨rfl, hb6'⟩
  have hb6 := bel_chain hb5 hb6'
  have hr6 := hr5.below hb6'
  go_wp2_with fail
  refine (dig_len w.heap.size [97, 98, 99] _ (Or.inl hr6)).mono ?_
  rintro e w' ⟨rfl, rfl⟩
  go_wp2
  go_ret
  exact ⟨rfl, hb6⟩

end Go.Proofs.Ytjdhmemnigohbaa
