/-
  Laws of chapter 9 over contracts of package frame: alive, FramePut.
-/
import Derived.Test.YtkjdklicgbjkpaaFra3
import Derived.Test.YtkjdklicgbjkpaaStrEq
namespace Go.Proofs.Ytkjdklicgbjkpaa
open Go.RowKit
set_option linter.unusedVariables false
set_option maxRecDepth 100000
set_option linter.unusedSimpArgs false

theorem bel_chain91 {w w1 w2 : World} (h1 : Below w.heap.size w w1) (h2 : Below w1.heap.size w1 w2) : Below w.heap.size w w2 := h1.trans (h2.mono h1.size)
/-- What a Reader's call turns lies behind what lay there before the Reader. -/
theorem FrameKeeps.bel (K : FrameKeeps) {w w' : World} {bl : Nat → Prop} {p B : Nat} {l : ByteArray} {d : Bool} (h : K.Rd w bl p l d) (ht : Touch bl w w') (hp : B ≤ p) (hB : B ≤ w.heap.size) : Below B w w' :=
  ht.below (fun k hk => Nat.le_trans hp (K.lt h k hk).1) hB
theorem reader_new (w : World) : Below w.heap.size w (w.alloc (.cells #[.string ⟨#[]⟩, .bool false, .int .i64 0] 31)) := (Below.refl _ _).alloc (Nat.le_refl _) _
theorem frame_abc : putFOk ⟨#[97, 98, 99]⟩ = true ∧ (putFS ⟨#[97, 98, 99]⟩).size = 5 := by decide +kernel
theorem feed_abc1 : fedS ⟨#[]⟩ false ((putFS ⟨#[97, 98, 99]⟩).extract 0 2) = [] ∧ fedD ⟨#[]⟩ false ((putFS ⟨#[97, 98, 99]⟩).extract 0 2) = false := by decide +kernel
theorem feed_abc2 : fedS (fedL ⟨#[]⟩ false ((putFS ⟨#[97, 98, 99]⟩).extract 0 2)) false ((putFS ⟨#[97, 98, 99]⟩).extract 2 5) = [⟨#[97, 98, 99]⟩] ∧ fedD (fedL ⟨#[]⟩ false ((putFS ⟨#[97, 98, 99]⟩).extract 0 2)) false ((putFS ⟨#[97, 98, 99]⟩).extract 2 5) = false := by decide +kernel
theorem feed_abc3 : (fedL ⟨#[]⟩ false ((putFS ⟨#[97, 98, 99]⟩).extract 0 2)).size = 2 := by decide +kernel

set_option maxRecDepth 100000 in
set_option maxHeartbeats 1000000 in
theorem alive9_of (K : FrameKeeps) (w : World) : Calls Try.prog 9 #[] w fun e w' => e = .returned (.bool true) ∧ Below w.heap.size w w' := by
  have P1 : Hid _ := fun w => K.put ⟨#[97, 98, 99]⟩ w (by decide)
  rw [frame_abc.1] at P1
  have z5 := frame_abc.2
  have q1 := feed_abc1
  have q2 := feed_abc2
  have q3 := feed_abc3
  have e1 := str_beq_self ⟨#[97, 98, 99]⟩
  generalize putFS ⟨#[97, 98, 99]⟩ = F at *
  have x1 : (F.extract 0 2).size = 2 := by simp; omega
  have x2 : (F.extract 2 5).size = 3 := by simp; omega
  have P2 : Hid (∀ (w : World) (bl : Nat → Prop) (p : Nat), K.Rd w bl p ⟨#[]⟩ false → _) := fun w bl p h => K.feed w bl p ⟨#[]⟩ false (F.extract 0 2) h (fun _ => by rw [x1]; decide) (fun h => by cases h)
  have P3 : Hid (∀ (w : World) (bl : Nat → Prop) (p : Nat), K.Rd w bl p (fedL ⟨#[]⟩ false (F.extract 0 2)) false → _) := fun w bl p h => K.feed w bl p _ false (F.extract 2 5) h (fun _ => by rw [x2, q3]; decide) (fun h => by cases h)
  rw [q1.1, q1.2] at P2
  rw [q2.1, q2.2] at P3
  generalize fedL (fedL ⟨#[]⟩ false (F.extract 0 2)) false (F.extract 2 5) = L2 at *
  generalize fedL ⟨#[]⟩ false (F.extract 0 2) = L1 at *
  clear q1 q2 q3
  go_enter Try.func9, Try.ntmps9
  go_wp2_with fail
  with_reducible refine (P1.out _).mono ?_
  rintro e w1 ⟨rfl, b⟩
  have hR := K.new w1
  have bN := reader_new w1
  go_wp2_with fail
  generalize hw2 : w1.alloc (.cells #[.string ⟨#[]⟩, .bool false, .int .i64 0] 31) = w2 at *
  have hp := b.size
  replace b := b.trans (bN.mono b.size)
  clear bN hw2
  generalize w1.heap.size = p at *
  refine (P2.out _ _ _ hR).mono ?_
  rintro e w3 ⟨v1, bl1, hv1, rfl, hR1, hb1, t1⟩
  replace b := b.trans (K.bel hR t1 hp b.size)
  obtain ⟨a1, c1, rfl⟩ := hv1.shape
  go_wp2_with fail
  refine (P3.out _ _ _ hR1).mono ?_
  rintro e w4 ⟨v2, bl2, hv2, rfl, hR2, hb2, t2⟩
  replace b := b.trans (K.bel hR1 t2 hp b.size)
  obtain ⟨g, c2, rfl, _, _⟩ := hv2.form (by decide)
  have c := hv2.cell rfl 0 (by decide)
  rw [show ([⟨#[97, 98, 99]⟩] : List ByteArray).length = 1 from rfl]
  go_wp2
  go_ret
  exact ⟨rfl, b⟩

theorem framePut_of (K : FrameKeeps) (a0 : ByteArray) (w : World) (h0 : a0.size ≤ 9223372036854775807) : Calls Try.prog 5 #[.string a0] w fun e w' => e = .returned (.bool true) ∧ Below w.heap.size w w' := by
  have PA : Hid _ := alive9_of K
  by_cases hs : a0.size ≤ 5000
  · have d1 : decide (5000 < (a0.size : Int)) = false := by simp; omega
    have P1 : Hid _ := fun w => K.put a0 w (by omega)
    have P2 : Hid _ := fun w => ref_frame a0 w (by omega)
    have e1 := str_beq_self (putFS a0)
    generalize putFS a0 = F at *
    generalize putFOk a0 = o at *
    have f1 : (o == o) = true := by cases o <;> rfl
    go_enter Try.func5, Try.ntmps5
    go_wp2_with fail
    with_reducible refine (PA.out _).mono ?_
    rintro e w1 ⟨rfl, b⟩
    go_wp2_with fail
    with_reducible refine (P1.out _).mono ?_
    rintro e w' ⟨rfl, b'⟩
    replace b := bel_chain91 b b'
    clear b'
    go_wp2_with fail
    with_reducible refine (P2.out _).mono ?_
    rintro e w' ⟨rfl, b'⟩
    replace b := bel_chain91 b b'
    go_wp2
    go_ret
    exact ⟨rfl, b⟩
  · have d1 : decide (5000 < (a0.size : Int)) = true := by simp; omega
    go_enter Try.func5, Try.ntmps5
    go_wp2_with fail
    with_reducible refine (PA.out _).mono ?_
    rintro e w1 ⟨rfl, b⟩
    go_wp2
    go_ret
    exact ⟨rfl, b⟩

end Go.Proofs.Ytkjdklicgbjkpaa
