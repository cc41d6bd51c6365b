/-
  Parts of this proof, one behind the other: Rec10.
-/
import Derived.Test.YtanghehmfagmfaaGreatDoorBun40
import Derived.Test.YtanghehmfagmfaaGreatDoorBun3

/-
  Laws of chapter 13 over what package record tells: RecordTwo.
-/
namespace Go.Proofs.YtanghehmfagmfaaGreatDoor
open Go.RowKit
set_option linter.unusedVariables false
set_option maxRecDepth 100000
set_option linter.unusedSimpArgs false

set_option maxRecDepth 100000 in
set_option maxHeartbeats 4000000 in
theorem recordTwo_of (K : RecordKeeps) (a b : ByteArray) (oa : Option Addr) (n c : Nat) (L : Nat → List UInt8) (w : World) (ha : a.size ≤ 9223372036854775807) (hb : b.size ≤ 9223372036854775807) (hn : n ≤ maxLen) (hs : StrsAt w oa n L) :
    Calls Tryz.prog 12 #[.string a, .string b, .slice oa n c] w fun e w' => e = .returned (.bool true) ∧ Below w.heap.size w w' := by
  have PA : Hid _ := alive13_of K
  by_cases c0 : 20 < (n : Int)
  · have d0 : decide (20 < (n : Int)) = true := decide_eq_true c0
    go_enter Tryz.func12, Tryz.ntmps12
    go_wp2_with fail
    with_reducible refine (PA.out _).mono ?_
    rintro e w1 ⟨rfl, b⟩
    go_wp2
    go_ret
    exact ⟨rfl, b⟩
  have d0 : decide (20 < (n : Int)) = false := decide_eq_false c0
  have F1 : Hid _ := fun w => law5_fill32 a w ha
  have F2 : Hid _ := fun w => law5_fill32 b w hb
  have hk1 : (fillS a 32).size = 32 := fillS_size _ _
  have hk2 : (fillS b 32).size = 32 := fillS_size _ _
  generalize fillS a 32 = K1 at *
  generalize fillS b 32 = K2 at *
  have P1 : Hid _ := fun w1 l (h : Here w l w1) => Here.newOut K h K1 hk1
  have P2 : Hid _ := fun w1 l (h : Here w l w1) => Here.newOut K h K2 hk2
  have P3 : Hid _ := fun w1 l (h : Here w l w1) => Here.newIn K h K1 hk1
  have P4 : Hid _ := fun w1 l (h : Here w l w1) => Here.newIn K h K2 hk2
  have S0 : Hid (StrsAt w oa n L) := hs
  clear hs
  go_enter Tryz.func12, Tryz.ntmps12
  go_wp2_with fail
  with_reducible refine (PA.out _).mono ?_
  rintro e w1 ⟨rfl, b1⟩
  clear PA
  go_wp2_with fail
  with_reducible refine (F1.out _).mono ?_
  rintro e w' ⟨rfl, rfl⟩
  go_wp2_with fail
  with_reducible refine (F2.out _).mono ?_
  rintro e w' ⟨rfl, rfl⟩
  go_wp2_with fail
  with_reducible refine (P1.out _ _ (Here.start' b1)).mono ?_
  rintro e w2 ⟨p1, rfl, h2⟩
  clear P1 F1 F2 b1
  go_wp2_with fail
  with_reducible refine (P2.out _ _ h2).mono ?_
  rintro e w3 ⟨p2, rfl, h3⟩
  clear P2 h2
  go_wp2_with fail
  with_reducible refine (P3.out _ _ h3).mono ?_
  rintro e w4 ⟨q1, rfl, h4⟩
  clear P3 h3
  go_wp2_with fail
  with_reducible refine (P4.out _ _ h4).mono ?_
  rintro e w5 ⟨q2, rfl, h5⟩
  clear P4 h4
  have H5 : Hid (Here w [InTh K q2 ⟨K2, 0, []⟩, InTh K q1 ⟨K1, 0, []⟩, OutTh K p2 K2 0, OutTh K p1 K1 0] w5) := h5
  clear h5
  go_wp2_with fail
  go_loopw [11, 12, 57] (fun xn ym i wr => ∃ (k x y : Nat), k ≤ n ∧ i = .int .i64 k ∧ xn = .int .i64 x ∧ ym = .int .i64 y ∧ x + y = k ∧ Here w [InTh K q2 ⟨K2, y, []⟩, InTh K q1 ⟨K1, x, []⟩, OutTh K p2 K2 y, OutTh K p1 K1 x] wr) (fun _ _ i _ => n - (intOf i).toNat)
  case atStart => exact ⟨0, 0, 0, Nat.zero_le _, rfl, rfl, rfl, rfl, H5.out⟩
  case round =>
    clear H5
    obtain ⟨k, x, y, hkn, rfl, rfl, rfl, hxy, hh⟩ := hrel
    by_cases hlt : k < n
    · have dlt : decide ((k : Int) < (n : Int)) = true := decide_eq_true (by omega)
      obtain ⟨bb, oo, rfl, _⟩ := S0.out k hlt
      have hcell : wr.cell? ⟨bb, oo + k, none⟩ = some (.string (str (L k))) := by
        obtain ⟨b', o', e, hc'⟩ := (S0.out.later hh.bel) k hlt
        injection e with e; injection e with e1 e2 _; subst e1 e2; exact hc'
      have i0 : (0 : Int) ≤ (k : Int) := by omega
      have i1 : (k : Int) < (n : Int) := by omega
      generalize str (L k) = T at *
      by_cases h3 : 300 < (T.size : Int)
      · have d3 : decide (300 < (T.size : Int)) = true := decide_eq_true h3
        have HB : Hid _ := hh.bel
        clear hh
        go_wp2
        go_ret
        exact ⟨rfl, HB.out⟩
      · have d3 : decide (300 < (T.size : Int)) = false := decide_eq_false h3
        have hT2 : T.size ≤ 2046 := by omega
        have eT := str_beq_self T
        have e3 : Int.tmod (k : Int) 3 = ((k % 3 : Nat) : Int) := by rw [Int.tmod_eq_emod_of_nonneg (by omega)]; omega
        have wx : IntKind.i64.wrap ((x : Int) + 1) = (x : Int) + 1 := by rw [IntKind.wrap_i64]; omega
        have wy : IntKind.i64.wrap ((y : Int) + 1) = (y : Int) + 1 := by rw [IntKind.wrap_i64]; omega
        have S1 : Hid _ := fun w1 x y (h : Here w [InTh K q2 ⟨K2, y, []⟩, InTh K q1 ⟨K1, x, []⟩, OutTh K p2 K2 y, OutTh K p1 K1 x] w1) (hx : x < 400) => h.sealT 3 T rfl hT2 hx
        have S2 : Hid _ := fun w1 x y (h : Here w [InTh K q2 ⟨K2, y, []⟩, InTh K q1 ⟨K1, x, []⟩, OutTh K p2 K2 y, OutTh K p1 K1 x] w1) (hy : y < 400) => h.sealT 2 T rfl hT2 hy
        have O1 : Hid (∀ w1 x y, Here w [InTh K q2 ⟨K2, y, []⟩, InTh K q1 ⟨K1, x, []⟩, OutTh K p2 K2 y, OutTh K p1 K1 (x + 1)] w1 → x < 400 → Calls Tryz.prog 20 #[.pointer (some ⟨q1, 0, none⟩), .string (recS K1 x T)] w1 fun e w' => ∃ a c, e = .returned (.tuple #[.slice a 1 c, .int .i64 0]) ∧ Here w [TextsTh w.heap.size (.slice a 1 c) [T], InTh K q2 ⟨K2, y, []⟩, InTh K q1 ⟨K1, x + 1, []⟩, OutTh K p2 K2 y, OutTh K p1 K1 (x + 1)] w') := fun w1 x y h hx => by
          obtain ⟨u1, u2, u3⟩ := step_at K1 T x hx hT2
          have := h.open_ 1 (recS K1 x T) rfl (by have := recS_le K1 x T hT2; omega)
          rw [u1, u2, u3] at this
          exact this
        have O2 : Hid (∀ w1 x y, Here w [InTh K q2 ⟨K2, y, []⟩, InTh K q1 ⟨K1, x, []⟩, OutTh K p2 K2 (y + 1), OutTh K p1 K1 x] w1 → y < 400 → Calls Tryz.prog 20 #[.pointer (some ⟨q2, 0, none⟩), .string (recS K2 y T)] w1 fun e w' => ∃ a c, e = .returned (.tuple #[.slice a 1 c, .int .i64 0]) ∧ Here w [TextsTh w.heap.size (.slice a 1 c) [T], InTh K q2 ⟨K2, y + 1, []⟩, InTh K q1 ⟨K1, x, []⟩, OutTh K p2 K2 (y + 1), OutTh K p1 K1 x] w') := fun w1 x y h hy => by
          obtain ⟨u1, u2, u3⟩ := step_at K2 T y hy hT2
          have := h.open_ 0 (recS K2 y T) rfl (by have := recS_le K2 y T hT2; omega)
          rw [u1, u2, u3] at this
          exact this
        by_cases hm : k % 3 = 1
        · rw [hm] at e3
          clear hm
          go_wp2_with fail
          with_reducible refine (S2.out _ x y hh (by omega)).mono ?_
          rintro e w7 ⟨rfl, h7⟩
          clear hh
          replace h7 : Here w [InTh K q2 ⟨K2, y, []⟩, InTh K q1 ⟨K1, x, []⟩, OutTh K p2 K2 (y + 1), OutTh K p1 K1 x] w7 := h7
          have PX := O2.out _ x y h7 (by omega)
          clear h7
          generalize recS K2 y T = R at *
          go_wp2_with fail
          with_reducible refine PX.mono ?_
          rintro e w8 ⟨a8, c8, rfl, h8⟩
          replace h8 : Here w [TextsTh w.heap.size (.slice a8 1 c8) [T], InTh K q2 ⟨K2, y + 1, []⟩, InTh K q1 ⟨K1, x, []⟩, OutTh K p2 K2 (y + 1), OutTh K p1 K1 x] w8 := h8
          clear PX
          have hown := h8.texts 0 rfl
          have H8 : Hid (Here w [InTh K q2 ⟨K2, y + 1, []⟩, InTh K q1 ⟨K1, x, []⟩, OutTh K p2 K2 (y + 1), OutTh K p1 K1 x] w8) := h8.tail
          obtain ⟨gg, cap2, e7, _, _⟩ := hown.form (by simp)
          injection e7 with x1 x2 x3
          subst x1 x3
          have c0 := hown.cell rfl 0 (by simp)
          clear h8 hown x2
          go_wp2
          go_roundw
          case rel => exact ⟨k + 1, x, y + 1, by omega, by go_num, rfl, rfl, by omega, H8.out⟩
          case measure => simp [intOf]; omega
        · have d1 : (((k % 3 : Nat) : Int) == 1) = false := beq_eq_false_iff_ne.2 (by omega)
          generalize k % 3 = r at *
          go_wp2_with fail
          with_reducible refine (S1.out _ x y hh (by omega)).mono ?_
          rintro e w7 ⟨rfl, h7⟩
          clear hh
          replace h7 : Here w [InTh K q2 ⟨K2, y, []⟩, InTh K q1 ⟨K1, x, []⟩, OutTh K p2 K2 y, OutTh K p1 K1 (x + 1)] w7 := h7
          have PX := O1.out _ x y h7 (by omega)
          clear h7
          generalize recS K1 x T = R at *
          go_wp2_with fail
          with_reducible refine PX.mono ?_
          rintro e w8 ⟨a8, c8, rfl, h8⟩
          replace h8 : Here w [TextsTh w.heap.size (.slice a8 1 c8) [T], InTh K q2 ⟨K2, y, []⟩, InTh K q1 ⟨K1, x + 1, []⟩, OutTh K p2 K2 y, OutTh K p1 K1 (x + 1)] w8 := h8
          clear PX
          have hown := h8.texts 0 rfl
          have H8 : Hid (Here w [InTh K q2 ⟨K2, y, []⟩, InTh K q1 ⟨K1, x + 1, []⟩, OutTh K p2 K2 y, OutTh K p1 K1 (x + 1)] w8) := h8.tail
          obtain ⟨gg, cap2, e7, _, _⟩ := hown.form (by simp)
          injection e7 with x1 x2 x3
          subst x1 x3
          have c0 := hown.cell rfl 0 (by simp)
          clear h8 hown x2
          go_wp2
          go_roundw
          case rel => exact ⟨k + 1, x + 1, y, by omega, by go_num, rfl, rfl, by omega, H8.out⟩
          case measure => simp [intOf]; omega
    · obtain rfl : k = n := by omega
      have dlt : decide ((k : Int) < (k : Int)) = false := by simp
      have HB : Hid _ := hh.bel
      have N1 := hh.outNext 3 rfl (by omega)
      have N2 : Hid _ := fun m => (hh.drewN m).outNext 2 rfl (by omega)
      have N3 : Hid _ := fun m => (hh.drewN m).inNext 1 rfl
      have N4 : Hid _ := fun m => (hh.drewN m).inNext 0 rfl
      clear hh
      go_wp2_with fail
      with_reducible refine N1.mono ?_
      rintro e w6 ⟨rfl, m1, rfl⟩
      go_wp2_with fail
      with_reducible refine (N2.out m1).mono ?_
      rintro e w6 ⟨rfl, m2, rfl⟩
      go_wp2_with fail
      with_reducible refine (N3.out _).mono ?_
      rintro e w6 ⟨rfl, m3, rfl⟩
      go_wp2_with fail
      with_reducible refine (N4.out _).mono ?_
      rintro e w6 ⟨rfl, m4, rfl⟩
      go_wp2
      go_ret
      exact ⟨rfl, bel13s HB.out (bel_drewN13 _ _)⟩

end Go.Proofs.YtanghehmfagmfaaGreatDoor
