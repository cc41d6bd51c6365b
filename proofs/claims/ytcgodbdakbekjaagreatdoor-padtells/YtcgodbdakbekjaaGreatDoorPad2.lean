/-
  The contracts of the reference's Pad and Unpad.
-/
import Derived.Test.YtcgodbdakbekjaaGreatDoorPad1
namespace Go.Proofs.YtcgodbdakbekjaaGreatDoor
open Go.RowKit
set_option linter.unusedVariables false
set_option maxRecDepth 100000
set_option linter.unusedSimpArgs false

theorem ret_sb8 {a b : ByteArray} {c d : Bool} (h : a = b) (h2 : c = d) : Ending.returned (.tuple #[.string a, .bool c]) = .returned (.tuple #[.string b, .bool d]) := by rw [h, h2]
theorem bel_chain81 {w w1 w2 : World} (h1 : Below w.heap.size w w1) (h2 : Below w1.heap.size w1 w2) : Below w.heap.size w w2 := h1.trans (h2.mono h1.size)
theorem str_app8 (a b : List UInt8) : str a ++ str b = str (a ++ b) := by simp [str, ByteArray.ext_iff]

theorem ref_pad (b : ByteArray) (w : World) (hb : b.size ≤ 1000000) :
    Calls Tryz.prog 10 #[.string b] w fun e w' => e = .returned (.tuple #[.string (padS b), .bool (padOk b)]) ∧ Below w.heap.size w w' := by
  have PZ : Hid _ := fun w => ref_size (b.size : Int) w (by omega) (by omega)
  by_cases h : b.size ≤ 2046
  · obtain ⟨e1, e2⟩ := padS_yes b h
    have hz := sizeN_bd (b.size : Int) (by omega) (by omega)
    have ok : sizeOk (b.size : Int) = true := decide_eq_true (by omega)
    have HS : Hid (putBigS (b.size : Int) 2 ++ b ++ str (List.replicate ((sizeN (b.size : Int)).toNat - 2 - b.size) 0) = padS b) := by
      show _ = _
      rw [e2]
      unfold pad8L putBigS
      rw [show b = str b.data.toList from (str_back b).symm, str_app8, str_app8]
      simp [str]
    have hzz : (sizeN (b.size : Int)) - 2 - (b.size : Int) = (((sizeN (b.size : Int)).toNat - 2 - b.size : Nat) : Int) := by omega
    have PQ : Hid (∀ w, Calls Tryz.prog 21 #[.int .i64 (sizeN (b.size : Int) - 2 - (b.size : Int))] w fun e w' => e = .returned (.string (str (List.replicate ((sizeN (b.size : Int)).toNat - 2 - b.size) 0))) ∧ Below w.heap.size w w') := fun w => by
      rw [hzz]
      exact ref_zeros _ w (by omega)
    have q1 : (str (List.replicate ((sizeN (b.size : Int)).toNat - 2 - b.size) (0 : UInt8))).size ≤ 2048 := by rw [str_size, List.length_replicate]; omega
    have PB : Hid (∀ w, Calls Tryz.prog 20 #[.int .u64 (b.size : Int), .int .i64 2] w fun e w' => e = .returned (.string (putBigS (b.size : Int) 2)) ∧ Below w.heap.size w w') := fun w => ref_putBig_yes (b.size : Int) 2 w (by omega) (by omega) (by omega) (by omega)
    have q2 : (putBigS (b.size : Int) 2).size = 2 := by rw [putBigS, str_size, putBig2_len]
    have u1 : IntKind.u64.wrap (b.size : Int) = b.size := by rw [IntKind.wrap_u64]; omega
    rw [ok] at PZ
    rw [e1]
    clear hzz e1 e2 ok
    generalize str (List.replicate ((sizeN (b.size : Int)).toNat - 2 - b.size) (0 : UInt8)) = Z at *
    generalize putBigS (b.size : Int) 2 = P at *
    generalize sizeN (b.size : Int) = S at *
    have n1 : ¬ (9223372036854775807 < P.size + b.size) := by omega
    obtain ⟨A, hA⟩ : ∃ A, P ++ b = A := ⟨_, rfl⟩
    have hAs : A.size = P.size + b.size := by rw [← hA, ByteArray.size_append]
    rw [hA] at HS
    have n2 : ¬ (9223372036854775807 < A.size + Z.size) := by omega
    go_enter Tryz.func10, Tryz.ntmps10
    go_wp2_with fail
    with_reducible refine (PZ.out _).mono ?_
    rintro e w1 ⟨rfl, b1⟩
    go_wp2_with fail
    with_reducible refine (PB.out _).mono ?_
    rintro e w2 ⟨rfl, b2⟩
    replace b1 := bel_chain81 b1 b2
    clear b2
    go_wp2_with fail
    with_reducible refine (PQ.out _).mono ?_
    rintro e w3 ⟨rfl, b3⟩
    replace b1 := bel_chain81 b1 b3
    clear b3
    go_wp2
    go_ret2
    exact ⟨ret_sb8 HS.out rfl, b1⟩
  · obtain ⟨e1, e2⟩ := padS_no b h
    have ok : sizeOk (b.size : Int) = false := decide_eq_false (by omega)
    rw [ok] at PZ
    rw [e1, e2]
    clear e1 e2 ok
    generalize sizeN (b.size : Int) = S at *
    go_enter Tryz.func10, Tryz.ntmps10
    go_wp2_with fail
    with_reducible refine (PZ.out _).mono ?_
    rintro e w1 ⟨rfl, b1⟩
    go_wp2
    go_ret2
    exact ⟨rfl, b1⟩

theorem mid_str (b : ByteArray) (n : Nat) (hn : n + 2 ≤ b.size) (w : World) :
    (Instr.slice 9 (.string b) (some (.int .i64 2)) (some (.int .i64 (2 + (n : Int)))) none).run Tryz.prog w = .ok (.string (b.extract 2 (2 + n))) w := by
  have h := run_slice_string (P := Tryz.prog) w 9 b .i64 .i64 2 (2 + (n : Int)) Tryz.underlying9 (by omega) (by omega) (by omega)
  rw [h]
  congr 2
theorem unpad_no (b : ByteArray) (h : ¬ (2 ≤ b.size ∧ headN b + 2 ≤ b.size ∧ padOk (b.extract 2 (2 + headN b)) = true ∧ padS (b.extract 2 (2 + headN b)) = b)) : unpadOk b = false ∧ unpadS b = ⟨#[]⟩ := by
  have : unpadOk b = false := decide_eq_false h
  exact ⟨this, by unfold unpadS; rw [this]; rfl⟩

set_option maxHeartbeats 400000 in
theorem ref_unpad (b : ByteArray) (w : World) (hb : b.size ≤ 1000000) :
    Calls Tryz.prog 12 #[.string b] w fun e w' => e = .returned (.tuple #[.string (unpadS b), .bool (unpadOk b)]) ∧ Below w.heap.size w w' := by
  by_cases h2 : b.size < 2
  · obtain ⟨e1, e2⟩ := unpad_no b (fun h => by omega)
    rw [e1, e2]
    have hlt : (b.size : Int) < 2 := by omega
    clear e1 e2
    go_enter Tryz.func12, Tryz.ntmps12
    go_wp2
    go_ret2
    exact ⟨rfl, Below.refl _ _⟩
  · have hlt : ¬ (b.size : Int) < 2 := by omega
    have hle : (2 : Int) ≤ (b.size : Int) := by omega
    have hx : (b.extract 0 2).size = 2 := by simp; omega
    have hB := fun w => ref_big (b.extract 0 2) w (by unfold maxLen; omega)
    rw [← headN_is b] at hB
    have PB : Hid _ := hB
    clear hB
    have hno := unpad_no b
    have hh := headN_lt b (by omega)
    have HUS : Hid (unpadOk b = true → unpadS b = b.extract 2 (2 + headN b)) := fun h => by unfold unpadS; rw [h, if_pos rfl]
    have HUO : Hid (unpadOk b = decide (2 ≤ b.size ∧ headN b + 2 ≤ b.size ∧ padOk (b.extract 2 (2 + headN b)) = true ∧ padS (b.extract 2 (2 + headN b)) = b)) := rfl
    generalize headN b = n at *
    have hcv : IntKind.i64.wrap (n : Int) = n := IntWalk.i64_in _ ⟨by omega, by omega⟩
    by_cases hn : n + 2 ≤ b.size
    · have hgt : ¬ ((b.size : Int) - 2 < (n : Int)) := by omega
      have hle2 : (2 : Int) + (n : Int) ≤ (b.size : Int) := by omega
      have hxx : (b.extract 2 (2 + n)).size = n := by simp; omega
      have hmid := mid_str b n hn
      have PP : Hid _ := fun w => ref_pad (b.extract 2 (2 + n)) w (by omega)
      by_cases ho : padOk (b.extract 2 (2 + n)) = true ∧ padS (b.extract 2 (2 + n)) = b
      · have ok : unpadOk b = true := by rw [HUO.out]; exact decide_eq_true ⟨by omega, hn, ho⟩
        rw [ok, HUS.out ok]
        rw [ho.1, ho.2] at PP
        have e1 := str_beq_self b
        clear ho ok hno HUS HUO
        go_enter Tryz.func12, Tryz.ntmps12
        go_wp2_with fail
        with_reducible refine (PB.out _).mono ?_
        rintro e w' ⟨rfl, rfl⟩
        go_wp2_with fail
        with_reducible refine (PP.out _).mono ?_
        rintro e w1 ⟨rfl, b1⟩
        go_wp2
        go_ret2
        exact ⟨rfl, b1⟩
      · obtain ⟨e1, e2⟩ := hno (fun h => ho h.2.2)
        rw [e1, e2]
        cases hp : padOk (b.extract 2 (2 + n))
        · rw [hp] at PP
          clear ho hp e1 e2 hno HUS HUO
          generalize padS (b.extract 2 (2 + n)) = S at *
          go_enter Tryz.func12, Tryz.ntmps12
          go_wp2_with fail
          with_reducible refine (PB.out _).mono ?_
          rintro e w' ⟨rfl, rfl⟩
          go_wp2_with fail
          with_reducible refine (PP.out _).mono ?_
          rintro e w1 ⟨rfl, b1⟩
          go_wp2
          go_ret2
          exact ⟨rfl, b1⟩
        · rw [hp] at PP
          have e3 : ((padS (b.extract 2 (2 + n))).toList == b.toList) = false := by rw [str_beq]; exact decide_eq_false (fun h => ho ⟨hp, h⟩)
          clear ho hp e1 e2 hno HUS HUO
          generalize padS (b.extract 2 (2 + n)) = S at *
          go_enter Tryz.func12, Tryz.ntmps12
          go_wp2_with fail
          with_reducible refine (PB.out _).mono ?_
          rintro e w' ⟨rfl, rfl⟩
          go_wp2_with fail
          with_reducible refine (PP.out _).mono ?_
          rintro e w1 ⟨rfl, b1⟩
          go_wp2
          go_ret2
          exact ⟨rfl, b1⟩
    · have hgt : ((b.size : Int) - 2 < (n : Int)) := by omega
      obtain ⟨e1, e2⟩ := hno (fun h => hn h.2.1)
      rw [e1, e2]
      clear e1 e2 hno HUS HUO
      go_enter Tryz.func12, Tryz.ntmps12
      go_wp2_with fail
      with_reducible refine (PB.out _).mono ?_
      rintro e w' ⟨rfl, rfl⟩
      go_wp2
      go_ret2
      exact ⟨rfl, Below.refl _ _⟩

end Go.Proofs.YtcgodbdakbekjaaGreatDoor
