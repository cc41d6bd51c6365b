/-
  Laws of chapter 8 over contracts of package pad: alive, PadOnly, PadSizes.
-/
import Derived.Test.YtcgodbdakbekjaaDoorPad3
import Derived.Test.YtcgodbdakbekjaaDoorRowI
import Derived.Test.YtcgodbdakbekjaaDoorStrEq
namespace Go.Proofs.YtcgodbdakbekjaaDoor
open Go.RowKit
set_option linter.unusedVariables false
set_option maxRecDepth 100000
set_option linter.unusedSimpArgs false

/-- What package pad's functions tell. -/
structure PadKeeps : Prop where
  sizes : ∀ w : World, Calls Tryd.prog 11 #[] w fun e w' => (∃ v, OwnI w' w.heap.size v sizesL ∧ e = .returned v) ∧ Below w.heap.size w w'
  size : ∀ (n : Int) (w : World), -9223372036854775808 ≤ n → n ≤ 9223372036854775807 → Calls Tryd.prog 9 #[.int .i64 n] w fun e w' => e = .returned (.tuple #[.int .i64 (sizeN n), .bool (sizeOk n)]) ∧ Below w.heap.size w w'
  pad : ∀ (b : ByteArray) (w : World), b.size ≤ 1000000 → Calls Tryd.prog 8 #[.string b] w fun e w' => e = .returned (.tuple #[.string (padS b), .bool (padOk b)]) ∧ Below w.heap.size w w'
  unpad : ∀ (b : ByteArray) (w : World), b.size ≤ 1000000 → Calls Tryd.prog 10 #[.string b] w fun e w' => e = .returned (.tuple #[.string (unpadS b), .bool (unpadOk b)]) ∧ Below w.heap.size w w'

theorem bel_chain82 {w w1 w2 : World} (h1 : Below w.heap.size w w1) (h2 : Below w1.heap.size w1 w2) : Below w.heap.size w w2 := h1.trans (h2.mono h1.size)
theorem pad_abc : (padS ⟨#[97, 98, 99]⟩).size = 32 ∧ (padS ⟨#[97, 98, 99]⟩).extract 0 5 = ⟨#[0, 3, 97, 98, 99]⟩ := by decide +kernel

set_option maxHeartbeats 400000 in
theorem alive8_of (K : PadKeeps) (w : World) : Calls Tryd.prog 7 #[] w fun e w' => e = .returned (.bool true) ∧ Below w.heap.size w w' := by
  have P1 : Hid _ := fun w => K.pad ⟨#[97, 98, 99]⟩ w (by decide)
  have p2 := fun w => K.unpad (padS ⟨#[97, 98, 99]⟩) w (by rw [pad_abc.1]; decide)
  rw [(unpad_pad ⟨#[97, 98, 99]⟩ (by decide)).1, (unpad_pad ⟨#[97, 98, 99]⟩ (by decide)).2] at p2
  have P2 : Hid _ := p2
  have P3 : Hid _ := K.sizes
  rw [(padS_yes ⟨#[97, 98, 99]⟩ (by decide)).1] at P1
  have h1 := pad_abc.1
  have h2 := pad_abc.2
  clear p2
  generalize padS ⟨#[97, 98, 99]⟩ = P at *
  have e1 := str_beq_self ⟨#[0, 3, 97, 98, 99]⟩
  have e2 := str_beq_self ⟨#[97, 98, 99]⟩
  go_enter Tryd.func7, Tryd.ntmps7
  go_wp2_with fail
  with_reducible refine (P1.out _).mono ?_
  rintro e w1 ⟨rfl, b⟩
  go_wp2_with fail
  with_reducible refine (P2.out _).mono ?_
  rintro e w' ⟨rfl, b'⟩
  replace b := bel_chain82 b b'
  clear b'
  go_wp2_with fail
  with_reducible refine (P3.out _).mono ?_
  rintro e w2 ⟨⟨v, hv, rfl⟩, b'⟩
  replace b := bel_chain82 b b'
  clear b'
  obtain ⟨ao, co, rfl⟩ := hv.shape
  rw [show sizesL.length = 4 from rfl]
  go_wp2
  go_ret
  exact ⟨rfl, b⟩

theorem padOnly_of (K : PadKeeps) (a0 : ByteArray) (w : World) (h0 : a0.size ≤ 9223372036854775807) : Calls Tryd.prog 5 #[.string a0] w fun e w' => e = .returned (.bool true) ∧ Below w.heap.size w w' := by
  have PA : Hid _ := alive8_of K
  by_cases hs : a0.size ≤ 2100
  · have d1 : decide (2100 < (a0.size : Int)) = false := by simp; omega
    have P1 : Hid _ := fun w => K.unpad a0 w (by omega)
    cases hu : unpadOk a0 with
    | false =>
      have e1 : unpadS a0 = ⟨#[]⟩ := by unfold unpadS; rw [hu]; rfl
      rw [hu, e1] at P1
      have e2 := str_beq_self ⟨#[]⟩
      clear hu e1
      go_enter Tryd.func5, Tryd.ntmps5
      go_wp2_with fail
      with_reducible refine (PA.out _).mono ?_
      rintro e w1 ⟨rfl, b⟩
      go_wp2_with fail
      with_reducible refine (P1.out _).mono ?_
      rintro e w' ⟨rfl, b'⟩
      replace b := bel_chain82 b b'
      go_wp2
      go_ret
      exact ⟨rfl, b⟩
    | true =>
      have hp := pad_unpad a0 hu
      have hz : (unpadS a0).size ≤ 1000000 := by
        have := of_decide_eq_true hp.1
        omega
      have p2 := fun w => K.pad (unpadS a0) w hz
      rw [hp.1, hp.2] at p2
      have P2 : Hid _ := p2
      rw [hu] at P1
      have e2 := str_beq_self a0
      clear hu hp hz p2
      generalize unpadS a0 = T at *
      go_enter Tryd.func5, Tryd.ntmps5
      go_wp2_with fail
      with_reducible refine (PA.out _).mono ?_
      rintro e w1 ⟨rfl, b⟩
      go_wp2_with fail
      with_reducible refine (P1.out _).mono ?_
      rintro e w' ⟨rfl, b'⟩
      replace b := bel_chain82 b b'
      clear b'
      go_wp2_with fail
      with_reducible refine (P2.out _).mono ?_
      rintro e w' ⟨rfl, b'⟩
      replace b := bel_chain82 b b'
      go_wp2
      go_ret
      exact ⟨rfl, b⟩
  · have d1 : decide (2100 < (a0.size : Int)) = true := by simp; omega
    go_enter Tryd.func5, Tryd.ntmps5
    go_wp2_with fail
    with_reducible refine (PA.out _).mono ?_
    rintro e w1 ⟨rfl, b⟩
    go_wp2
    go_ret
    exact ⟨rfl, b⟩

/-- The four sizes, in one breath. -/
theorem size_facts (a : Int) (h0 : 0 ≤ a) (h1 : a ≤ 2046) : a + 2 ≤ sizeN a ∧ (sizeN a = 32 ∨ sizeN a / 4 < a + 2) ∧ 32 ≤ sizeN a ∧ sizeN a ≤ 2048 := by
  unfold sizeN
  rw [if_neg (by omega)]
  split
  · omega
  · split
    · omega
    · split
      · omega
      · omega
theorem size_mono (a b : Int) (h0 : 0 ≤ a) (hab : a ≤ b) (h1 : b ≤ 2046) : sizeN a ≤ sizeN b := by
  unfold sizeN
  (repeat' split) <;> omega

set_option maxHeartbeats 400000 in
theorem padSizes_of (K : PadKeeps) (a0 a1 : Int) (w : World) (h0 : -9223372036854775808 ≤ a0) (h1 : a0 ≤ 9223372036854775807) (h2 : -9223372036854775808 ≤ a1) (h3 : a1 ≤ 9223372036854775807) : Calls Tryd.prog 4 #[.int .i64 a0, .int .i64 a1] w fun e w' => e = .returned (.bool true) ∧ Below w.heap.size w w' := by
  have PA : Hid _ := alive8_of K
  have P1 : Hid _ := fun w => K.size a0 w h0 h1
  have P2 : Hid _ := fun w => K.size a1 w h2 h3
  clear h0 h1 h2 h3
  by_cases hg : 0 ≤ a0 ∧ a0 ≤ a1 ∧ a1 ≤ 3000
  · obtain ⟨g0, g1, g2⟩ := hg
    have d0 : decide (a0 < 0) = false := by simp; omega
    have d1 : decide (a1 < a0) = false := by simp; omega
    have d2 : decide (3000 < a1) = false := by simp; omega
    by_cases ha : a0 ≤ 2046
    · have oa : sizeOk a0 = true := decide_eq_true ⟨g0, ha⟩
      obtain ⟨f1, f2, f3, f4⟩ := size_facts a0 g0 ha
      rw [oa] at P1
      clear oa
      have hw : wrap64 (a0 + 2) = a0 + 2 := IntWalk.wrap64_in _ ⟨by omega, by omega⟩
      have hge : decide (a0 + 2 ≤ sizeN a0) = true := decide_eq_true f1
      have HQ : Hid (((sizeN a0 == 32) = true) ∨ ((sizeN a0 == 32) = false ∧ decide (sizeN a0 / 4 < a0 + 2) = true)) := by
        show _ ∨ _
        by_cases h : sizeN a0 = 32
        · left; simp [h]
        · right; refine ⟨by simpa using h, decide_eq_true ?_⟩; rcases f2 with f2 | f2; exact absurd f2 h; exact f2
      clear f2
      by_cases hb : a1 ≤ 2046
      · have ob : sizeOk a1 = true := decide_eq_true ⟨by omega, hb⟩
        have hm := size_mono a0 a1 g0 g1 hb
        rw [ob] at P2
        have hn : decide (sizeN a1 < sizeN a0) = false := by simp; omega
        clear ob hm
        generalize sizeN a1 = Y at *
        generalize sizeN a0 = X at *
        rcases HQ.out with q | ⟨q, q2⟩
        all_goals
          go_enter Tryd.func4, Tryd.ntmps4
          go_wp2_with fail
          with_reducible refine (PA.out _).mono ?_
          rintro e w1 ⟨rfl, b⟩
          go_wp2_with fail
          with_reducible refine (P1.out _).mono ?_
          rintro e w' ⟨rfl, b'⟩
          replace b := bel_chain82 b b'
          clear b'
          go_wp2_with fail
          with_reducible refine (P2.out _).mono ?_
          rintro e w' ⟨rfl, b'⟩
          replace b := bel_chain82 b b'
          clear b'
          go_wp2
          go_ret
          exact ⟨rfl, b⟩
      · have ob : sizeOk a1 = false := decide_eq_false (by omega)
        rw [ob] at P2
        clear ob
        generalize sizeN a1 = Y at *
        generalize sizeN a0 = X at *
        rcases HQ.out with q | ⟨q, q2⟩
        all_goals
          go_enter Tryd.func4, Tryd.ntmps4
          go_wp2_with fail
          with_reducible refine (PA.out _).mono ?_
          rintro e w1 ⟨rfl, b⟩
          go_wp2_with fail
          with_reducible refine (P1.out _).mono ?_
          rintro e w' ⟨rfl, b'⟩
          replace b := bel_chain82 b b'
          clear b'
          go_wp2_with fail
          with_reducible refine (P2.out _).mono ?_
          rintro e w' ⟨rfl, b'⟩
          replace b := bel_chain82 b b'
          clear b'
          go_wp2
          go_ret
          exact ⟨rfl, b⟩
    · have oa : sizeOk a0 = false := decide_eq_false (by omega)
      have ob : sizeOk a1 = false := decide_eq_false (by omega)
      have z := sizeN_no a0 (by omega)
      rw [oa, z] at P1
      rw [ob] at P2
      have hgt : decide (2046 < a0) = true := by simp; omega
      clear oa ob z
      generalize sizeN a1 = Y at *
      go_enter Tryd.func4, Tryd.ntmps4
      go_wp2_with fail
      with_reducible refine (PA.out _).mono ?_
      rintro e w1 ⟨rfl, b⟩
      go_wp2_with fail
      with_reducible refine (P1.out _).mono ?_
      rintro e w' ⟨rfl, b'⟩
      replace b := bel_chain82 b b'
      clear b'
      go_wp2_with fail
      with_reducible refine (P2.out _).mono ?_
      rintro e w' ⟨rfl, b'⟩
      replace b := bel_chain82 b b'
      clear b'
      go_wp2
      go_ret
      exact ⟨rfl, b⟩
  · clear P1 P2
    cases q0 : decide (a0 < 0) <;> cases q1 : decide (a1 < a0) <;> cases q2 : decide (3000 < a1)
    case false.false.false => simp at q0 q1 q2; exact absurd ⟨q0, q1, q2⟩ hg
    all_goals
      clear hg
      go_enter Tryd.func4, Tryd.ntmps4
      go_wp2_with fail
      with_reducible refine (PA.out _).mono ?_
      rintro e w1 ⟨rfl, b⟩
      go_wp2
      go_ret
      exact ⟨rfl, b⟩

end Go.Proofs.YtcgodbdakbekjaaDoor
