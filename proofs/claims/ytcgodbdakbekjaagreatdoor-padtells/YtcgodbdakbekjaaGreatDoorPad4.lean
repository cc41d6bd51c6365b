/-
  The law PadTells over contracts of package pad: whoever keeps them, of him it is true.
-/
import Derived.Test.YtcgodbdakbekjaaGreatDoorBokI9
import Derived.Test.YtcgodbdakbekjaaGreatDoorPad2
namespace Go.Proofs.YtcgodbdakbekjaaGreatDoor
open Go.RowKit
set_option linter.unusedVariables false
set_option maxRecDepth 100000
set_option linter.unusedSimpArgs false

theorem book_newI (w : World) : BookI (w.alloc (.cells (rowI (.slice none 0 0) (.slice none 0 0)).toArray 32)) w.heap.size w.heap.size (.slice none 0 0) (.slice none 0 0) [] [] [] :=
  ⟨RowIs.new w _ _, Nat.le_refl _, World.ownsRow_nil _ _ _ _, World.ownsRow_nil _ _ _ _, rfl, rfl, fun i v l h => by simp at h, fun i v l h => by simp at h, by simp [Apart2, Value.ownBlock], by simp [Value.ownBlock]⟩
/-- A list that was made behind the book is free. -/
theorem BookI.fresh {w w' : World} {base p : Nat} {vo wo v : Value} {vs ws : List Value} {ls : List (List Int)} {l : List Int} (h : BookI w base p vo wo vs ws ls) (hb : Below w.heap.size w w') (hv : OwnI w' w.heap.size v l) : Free w' p (vo :: wo :: (vs ++ ws)) v := by
  intro k hk
  obtain ⟨h1, h2⟩ := World.ownsRow.lt hv k hk
  have hp := h.row.lt
  refine ⟨h2, by omega, fun u hu he => ?_⟩
  have := (h.lt hu he).2
  omega
/-- What Ints turns is the book's. -/
theorem BookI.touched {w w' : World} {base p : Nat} {vo wo : Value} {vs ws : List Value} {ls : List (List Int)} (h : BookI w base p vo wo vs ws ls) (ht : Touch (fun k => k = p ∨ vo.ownBlock = some k ∨ wo.ownBlock = some k) w w') (hb : base ≤ w.heap.size) : Below base w w' := by
  refine ht.below (fun k hk => ?_) hb
  rcases hk with rfl | hk | hk
  · exact h.here
  · exact (h.lt (u := vo) (by simp) hk).1
  · exact (h.lt (u := wo) (by simp) hk).1

set_option maxRecDepth 100000 in
set_option maxHeartbeats 1000000 in
theorem padTells_of (a0 a1 : ByteArray) (a2 : Int) (w : World) (h0 : a0.size ≤ 2100) (h1 : a1.size ≤ 2100) (h2 : -9223372036854775808 ≤ a2) (h3 : a2 ≤ 9223372036854775807)
    (halive : ∀ w, Calls Tryz.prog 4 #[] w fun e w' => e = .returned (.bool true) ∧ Below w.heap.size w w')
    (hsizes : ∀ w, Calls Tryz.prog 6 #[] w fun e w' => (∃ v, OwnI w' w.heap.size v sizesL ∧ e = .returned v) ∧ Below w.heap.size w w')
    (hsize : ∀ w, Calls Tryz.prog 7 #[.int .i64 a2] w fun e w' => e = .returned (.tuple #[.int .i64 (sizeN a2), .bool (sizeOk a2)]) ∧ Below w.heap.size w w')
    (hpad : ∀ w, Calls Tryz.prog 9 #[.string a0] w fun e w' => e = .returned (.tuple #[.string (padS a0), .bool (padOk a0)]) ∧ Below w.heap.size w w')
    (hunpad : ∀ w, Calls Tryz.prog 11 #[.string a1] w fun e w' => e = .returned (.tuple #[.string (unpadS a1), .bool (unpadOk a1)]) ∧ Below w.heap.size w w') :
    Calls Tryz.prog 3 #[.string a0, .string a1, .int .i64 a2] w fun e w' => e = .returned (.bool true) ∧ Below w.heap.size w w' := by
  have d1 : decide (2100 < (a0.size : Int)) = false := by simp; omega
  have d2 : decide (2100 < (a1.size : Int)) = false := by simp; omega
  have R1 : Hid _ := fun w => ref_size a2 w h2 h3
  have R2 : Hid _ := fun w => ref_pad a0 w (by omega)
  have R3 : Hid _ := fun w => ref_unpad a1 w (by omega)
  have PA : Hid _ := halive
  have PS : Hid _ := hsizes
  have P1 : Hid _ := hsize
  have P2 : Hid _ := hpad
  have P3 : Hid _ := hunpad
  have e1 := str_beq_self (padS a0)
  have e2 := str_beq_self (unpadS a1)
  clear halive hsizes hsize hpad hunpad h0 h1 h2 h3
  generalize sizeN a2 = Z at *
  generalize sizeOk a2 = z at *
  generalize padS a0 = P at *
  generalize padOk a0 = q at *
  generalize unpadS a1 = U at *
  generalize unpadOk a1 = u at *
  have f1 : (z == z) = true := by cases z <;> rfl
  have f2 : (q == q) = true := by cases q <;> rfl
  have f3 : (u == u) = true := by cases u <;> rfl
  go_enter Tryz.func3, Tryz.ntmps3
  go_wp2_with fail
  with_reducible refine (PA.out _).mono ?_
  rintro e w1 ⟨rfl, b1⟩
  go_wp2_with fail
  have hB : BookI (w1.alloc (.cells #[.slice none 0 0, .slice none 0 0, .slice none 0 0, .slice none 0 0, .slice none 0 0, .slice none 0 0, .slice none 0 0, .slice none 0 0, .slice none 0 0, .slice none 0 0, .slice none 0 0, .slice none 0 0, .slice none 0 0, .slice none 0 0] 32)) w1.heap.size w1.heap.size (.slice none 0 0) (.slice none 0 0) [] [] [] := book_newI w1
  have B : Below w1.heap.size w1 (w1.alloc (.cells #[.slice none 0 0, .slice none 0 0, .slice none 0 0, .slice none 0 0, .slice none 0 0, .slice none 0 0, .slice none 0 0, .slice none 0 0, .slice none 0 0, .slice none 0 0, .slice none 0 0, .slice none 0 0, .slice none 0 0, .slice none 0 0] 32)) := (Below.refl _ _).alloc (Nat.le_refl _) _
  have hlen : sizesL.length = 4 := rfl
  generalize w1.alloc (.cells #[.slice none 0 0, .slice none 0 0, .slice none 0 0, .slice none 0 0, .slice none 0 0, .slice none 0 0, .slice none 0 0, .slice none 0 0, .slice none 0 0, .slice none 0 0, .slice none 0 0, .slice none 0 0, .slice none 0 0, .slice none 0 0] 32) = w2 at *
  with_reducible refine (PS.out _).mono ?_
  rintro e w3 ⟨⟨v1, hv, rfl⟩, b3⟩
  have free := hB.fresh b3 hv
  have hv2 : OwnI w3 w1.heap.size v1 sizesL := hv.base B.size
  replace hB := hB.below b3
  replace B := B.trans (b3.mono B.size)
  clear hv b3
  go_wp2_with fail
  with_reducible refine (book_ints w1.heap.size w1.heap.size _ _ _ _ _ v1 sizesL w3 hB hv2 free (by simp) (by rw [hlen]; omega) B.size).mono ?_
  rintro e w4 ⟨rfl, ⟨vo, wo, u1, hB4⟩, t4⟩
  replace B := B.trans (hB.touched t4 B.size)
  clear hB t4 free hv2
  have hB := hB4
  clear hB4
  go_wp2_with fail
  with_reducible refine (PS.out _).mono ?_
  rintro e w5 ⟨⟨v2, hv, rfl⟩, b3⟩
  have free := hB.fresh b3 hv
  have hv2 : OwnI w5 w1.heap.size v2 sizesL := hv.base B.size
  replace hB := hB.below b3
  replace B := B.trans (b3.mono B.size)
  clear hv b3
  go_wp2_with fail
  with_reducible refine (book_ints w1.heap.size w1.heap.size _ _ _ _ _ v2 sizesL w5 hB hv2 free (by simp) (by rw [hlen]; omega) B.size).mono ?_
  rintro e w6 ⟨rfl, ⟨vo2, wo2, u2, hB4⟩, t4⟩
  replace B := B.trans (hB.touched t4 B.size)
  clear hB t4 free hv2
  have hB := hB4
  clear hB4
  go_wp2_with fail
  simp only [List.nil_append, List.cons_append] at hB
  with_reducible refine (P1.out _).mono ?_
  rintro e w' ⟨rfl, b'⟩
  replace hB := hB.below b'
  replace B := B.trans (b'.mono B.size)
  clear b'
  go_wp2_with fail
  with_reducible refine (R1.out _).mono ?_
  rintro e w' ⟨rfl, b'⟩
  replace hB := hB.below b'
  replace B := B.trans (b'.mono B.size)
  clear b'
  go_wp2_with fail
  with_reducible refine (P2.out _).mono ?_
  rintro e w' ⟨rfl, b'⟩
  replace hB := hB.below b'
  replace B := B.trans (b'.mono B.size)
  clear b'
  go_wp2_with fail
  with_reducible refine (R2.out _).mono ?_
  rintro e w' ⟨rfl, b'⟩
  replace hB := hB.below b'
  replace B := B.trans (b'.mono B.size)
  clear b'
  go_wp2_with fail
  with_reducible refine (P3.out _).mono ?_
  rintro e w' ⟨rfl, b'⟩
  replace hB := hB.below b'
  replace B := B.trans (b'.mono B.size)
  clear b'
  go_wp2_with fail
  with_reducible refine (R3.out _).mono ?_
  rintro e w' ⟨rfl, b'⟩
  replace hB := hB.below b'
  replace B := B.trans (b'.mono B.size)
  clear b'
  go_wp2_with fail
  with_reducible refine (PS.out _).mono ?_
  rintro e w7 ⟨⟨v3, hv3, rfl⟩, b'⟩
  replace hB := hB.below b'
  replace B := B.trans (b'.mono B.size)
  clear b'
  have s3 : Seen (w7.alloc (.cells #[.int .i64 32, .int .i64 128, .int .i64 512, .int .i64 2048] 3)) v3 (cellsI sizesL) := (OwnI.seen hv3).below ((Below.refl _ _).alloc (Nat.le_refl _) _)
  have s4 : Seen (w7.alloc (.cells #[.int .i64 32, .int .i64 128, .int .i64 512, .int .i64 2048] 3)) (.slice (some ⟨w7.heap.size, 0, none⟩) 4 4) (cellsI sizesL) := Or.inr ⟨w7.heap.size, 4, rfl, fun j x hj => (RowIs.new w7 3 (cellsI sizesL)).cellAt hj⟩
  replace hB := hB.below ((Below.refl w7.heap.size w7).alloc (Nat.le_refl _) (.cells #[.int .i64 32, .int .i64 128, .int .i64 512, .int .i64 2048] 3))
  replace B : Below w1.heap.size w1 (w7.alloc (.cells #[.int .i64 32, .int .i64 128, .int .i64 512, .int .i64 2048] 3)) := B.alloc B.size _
  have PQ := book_sameInts sizesL _ _ _ s3 s4 (by rw [hlen]; omega)
  clear s3 s4 hv3
  go_wp2_with fail
  generalize w7.alloc (.cells #[.int .i64 32, .int .i64 128, .int .i64 512, .int .i64 2048] 3) = w8 at *
  with_reducible refine PQ.mono ?_
  rintro e w9 ⟨rfl, b'⟩
  replace hB := hB.below b'
  replace B := B.trans (b'.mono B.size)
  clear b' PQ
  go_wp2_with fail
  with_reducible refine (book_apartI w1.heap.size w1.heap.size _ _ _ _ _ _ hB (by simp) (fun i l hl => by
    have hm := List.mem_of_getElem? hl
    have : l = sizesL := by simpa using hm
    rw [this, hlen]; omega) B.size).mono ?_
  rintro e w10 ⟨rfl, b'⟩
  replace B := B.trans b'
  go_wp2
  go_ret
  exact ⟨rfl, b1.trans (B.mono b1.size)⟩

end Go.Proofs.YtcgodbdakbekjaaGreatDoor
