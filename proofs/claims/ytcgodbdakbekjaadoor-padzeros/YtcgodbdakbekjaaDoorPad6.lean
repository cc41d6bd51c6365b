/-
  Laws of chapter 8 over contracts of package pad: PadLengths.
-/
import Derived.Test.YtcgodbdakbekjaaDoorPad5
import Derived.Test.YtcgodbdakbekjaaDoorMac0
import Derived.Test.YtcgodbdakbekjaaDoorMod0
namespace Go.Proofs.YtcgodbdakbekjaaDoor
open Go.RowKit
set_option linter.unusedVariables false
set_option maxRecDepth 100000
set_option linter.unusedSimpArgs false

theorem turn_ne8 (l : List UInt8) (j : Nat) (x y : UInt8) (hx : l[j]? = some x) (hy : y ≠ 0) : str (l.set j (x ^^^ y)) ≠ str l := by
  intro e
  have e' : l.set j (x ^^^ y) = l := by
    have := congrArg (fun s : ByteArray => s.data.toList) e
    simpa [str] using this
  have h2 : (l.set j (x ^^^ y))[j]? = some (x ^^^ y) := by
    rw [List.getElem?_set_self (List.getElem?_eq_some_iff.1 hx).1]
  rw [e', hx] at h2
  have h3 : x ^^^ y = x := (Option.some.inj h2).symm
  have : x ^^^ (x ^^^ y) = x ^^^ x := by rw [h3]
  rw [← UInt8.xor_assoc, UInt8.xor_self, UInt8.zero_xor] at this
  exact hy this
theorem mask_bits8 (x m : UInt8) : bits BinOp.xor IntKind.u8 (x.toNat : Int) (m.toNat : Int) = ((x.toNat ^^^ m.toNat : Nat) : Int) := u8_xor_nat _ _ x.toNat_lt m.toNat_lt

set_option maxRecDepth 100000 in
set_option maxHeartbeats 1000000 in
theorem padLengths_of (K : PadKeeps) (a0 a1 : ByteArray) (a2 : Int) (y : UInt8) (w : World) (h0 : a0.size ≤ 2046) (h1 : a1.size ≤ 2046) (hy : y ≠ 0) :
    Calls Tryd.prog 3 #[.string a0, .string a1, .int .i64 a2, .int .u8 (y.toNat : Int)] w fun e w' => e = .returned (.bool true) ∧ Below w.heap.size w w' := by
  have PA : Hid _ := alive8_of K
  have d1 : decide (2046 < (a0.size : Int)) = false := by simp; omega
  have d2 : decide (2046 < (a1.size : Int)) = false := by simp; omega
  have d3 : (((y.toNat : Nat) : Int) == 0) = false := by
    rw [beq_eq_false_iff_ne]
    intro e
    exact hy (UInt8.toNat_inj.1 (by simpa using e))
  obtain ⟨Z, hZ⟩ : ∃ Z : Nat, sizeN (a0.size : Int) = (Z : Int) := ⟨(sizeN (a0.size : Int)).toNat, by have := sizeN_bd (a0.size : Int) (by omega) (by omega); omega⟩
  obtain ⟨Y, hY⟩ : ∃ Y : Nat, sizeN (a1.size : Int) = (Y : Int) := ⟨(sizeN (a1.size : Int)).toNat, by have := sizeN_bd (a1.size : Int) (by omega) (by omega); omega⟩
  have hb0 := sizeN_bd (a0.size : Int) (by omega) (by omega)
  have hs0 := padS_size a0 h0
  have hs1 := padS_size a1 h1
  rw [hZ] at hb0 hs0
  rw [hY] at hs1
  have hs0' : (padS a0).size = Z := by omega
  have hs1' : (padS a1).size = Y := by omega
  clear hs0 hs1
  have p1 := fun w => K.pad a0 w (by omega)
  have p2 := fun w => K.pad a1 w (by omega)
  have p3 := fun w => K.size (a0.size : Int) w (by omega) (by omega)
  have p4 := fun w => K.size (a1.size : Int) w (by omega) (by omega)
  rw [(padS_yes a0 h0).1] at p1
  rw [(padS_yes a1 h1).1] at p2
  rw [hZ, show sizeOk (a0.size : Int) = true from decide_eq_true (by omega)] at p3
  rw [hY, show sizeOk (a1.size : Int) = true from decide_eq_true (by omega)] at p4
  have P1 : Hid _ := p1
  have P2 : Hid _ := p2
  have P3 : Hid _ := p3
  have P4 : Hid _ := p4
  have hz1 : (padS a0 ++ ⟨#[0]⟩ : ByteArray).size = Z + 1 := by rw [ByteArray.size_append, hs0']; rfl
  have hlast : unpadOk (padS a0 ++ ⟨#[0]⟩) = false := by
    refine unpad_other a0 _ h0 ?_ (fun e => ?_)
    · have : (padS a0 ++ ⟨#[0]⟩ : ByteArray).data.toList = (padS a0).data.toList ++ [0] := by simp
      rw [this, List.take_append_of_le_length]
      have : (padS a0).data.toList.length = Z := by simpa using hs0'
      omega
    · have := congrArg ByteArray.size e
      omega
  have p5 := fun w => K.unpad (padS a0 ++ ⟨#[0]⟩) w (by omega)
  rw [hlast] at p5
  have P5 : Hid _ := p5
  clear p1 p2 p3 p4 p5 hlast hZ hY
  generalize unpadS (padS a0 ++ ⟨#[0]⟩) = X5 at *
  have hcat : ¬ (9223372036854775807 < (padS a0).size + 1) := by omega
  obtain ⟨P0, hP0⟩ : ∃ P0, padS a0 ++ (⟨#[0]⟩ : ByteArray) = P0 := ⟨_, rfl⟩
  rw [hP0] at P5 hz1
  obtain ⟨l, hl, hlen⟩ : ∃ l : List UInt8, padS a0 = str l ∧ l.length = Z := ⟨(padS a0).data.toList, (str_back _).symm, by simpa using hs0'⟩
  have hle : 2 + a0.size ≤ Z := by omega
  have hZ2 : Z ≤ 2048 := by omega
  have hqq : (((Z : Int) == (Y : Int)) == ((Z : Int) == (Y : Int))) = true := by cases ((Z : Int) == (Y : Int)) <;> rfl
  generalize padS a1 = Q at *
  by_cases hfree : 2 + a0.size < Z
  · obtain ⟨f, hf⟩ : ∃ f : Nat, f = Z - 2 - a0.size := ⟨_, rfl⟩
    have hfI : (Z : Int) - 2 - (a0.size : Int) = (f : Int) := by omega
    have hf0 : 0 < f := by omega
    have d4 : decide (0 < (f : Int)) = true := by simp; omega
    have hm := mod_back3 a2 f (by omega) (by omega)
    have hm0 := Int.emod_nonneg a2 (show (f : Int) ≠ 0 from by omega)
    have hm1 := Int.emod_lt_of_pos a2 (show (0 : Int) < f from by omega)
    obtain ⟨k, hk⟩ := Int.eq_ofNat_of_zero_le hm0
    rw [hk] at hm hm1
    obtain ⟨j, hj⟩ : ∃ j : Nat, j = 2 + a0.size + k := ⟨_, rfl⟩
    have hjI : (2 : Int) + (a0.size : Int) + (k : Int) = (j : Int) := by omega
    have hjl : j < l.length := by omega
    obtain ⟨x, hx⟩ : ∃ x, l[j] = x := ⟨_, rfl⟩
    have hx' : l[j]? = some x := by rw [List.getElem?_eq_getElem hjl, hx]
    have hxor := mask_bits8 x y
    have hne := turn_ne8 l j x y hx' hy
    have hun : unpadOk (str (l.set j (x ^^^ y))) = false := by
      refine unpad_other a0 _ h0 ?_ (fun e => hne (by rw [e, hl]))
      rw [hl]
      show (l.set j (x ^^^ y)).take _ = l.take _
      exact List.take_set_of_le (by omega)
    have z0 : (l.set j (x ^^^ y)).length = Z := by rw [List.length_set]; exact hlen
    have p6 := fun w => K.unpad (str (l.set j (x ^^^ y))) w (by rw [str_size]; omega)
    rw [hun] at p6
    have P6 : Hid _ := p6
    have hj2 : (j : Int) < (Z : Int) := by omega
    clear p6 hun hne hm0 hk hm1 hf hj
    generalize unpadS (str (l.set j (x ^^^ y))) = X6 at *
    obtain ⟨M, hM⟩ : ∃ M, M = str (l.set j (x ^^^ y)) := ⟨_, rfl⟩
    rw [← hM] at P6
    have HM : Hid _ := hM
    clear hM
    rw [hl] at P1 hs0' hP0 hcat
    clear hl
    go_enter Tryd.func3, Tryd.ntmps3
    go_wp2_with fail
    with_reducible refine (PA.out _).mono ?_
    rintro e w1 ⟨rfl, b⟩
    go_wp2_with fail
    with_reducible refine (P1.out _).mono ?_
    rintro e w' ⟨rfl, b'⟩
    replace b := bel_chain82 b b'
    clear b'
    go_wp2_with fail
    with_reducible refine (P2.out _).mono ?_
    rintro e w' ⟨rfl, b'⟩
    replace b := bel_chain82 b b'
    clear b'
    go_wp2_with fail
    with_reducible refine (P3.out _).mono ?_
    rintro e w' ⟨rfl, b'⟩
    replace b := bel_chain82 b b'
    clear b'
    go_wp2_with fail
    with_reducible refine (P4.out _).mono ?_
    rintro e w' ⟨rfl, b'⟩
    replace b := bel_chain82 b b'
    clear b'
    have hcv := bytes_conv w' (str l)
    have hz := bytes_new w' (str l)
    have hb2 := bytes_below w' (str l)
    have hcap := grownCap_ge w' (str l).size 0 5
    rw [show (str l).data.toList = l from by simp [str]] at hz
    rw [hs0'] at hcv hcap
    have hg := b.size
    replace b := bel_chain82 b hb2
    clear hb2
    generalize grownCap w' Z 0 5 = cap at *
    generalize Lib.bytesWorld w' 5 (str l) = w3 at *
    generalize w'.heap.size = g at *
    have hc := hz.cell j hjl
    have hf2 := hz.frozen j hjl
    rw [hx] at hc
    have hz4 := (hz.set j hjl (x ^^^ y))
    rw [UInt8.toNat_xor] at hz4
    have b4 : Below w.heap.size w (w3.setCell ⟨g, j, none⟩ (.int .u8 ((x.toNat ^^^ y.toNat : Nat) : Int))) := b.setCell hg _
    have hs4 := hz4.string Z cap (by omega)
    rw [List.take_of_length_le (by omega), ← HM.out] at hs4
    go_wp2_with fail
    clear hcv b hc hf2 hz hz4
    have b := b4
    clear b4
    generalize w3.setCell ⟨g, j, none⟩ (.int .u8 ((x.toNat ^^^ y.toNat : Nat) : Int)) = w4 at *
    with_reducible refine (P6.out _).mono ?_
    rintro e w' ⟨rfl, b'⟩
    replace b := bel_chain82 b b'
    clear b' hs4
    go_wp2_with fail
    with_reducible refine (P5.out _).mono ?_
    rintro e w' ⟨rfl, b'⟩
    replace b := bel_chain82 b b'
    clear b'
    go_wp2
    go_ret
    exact ⟨rfl, b⟩
  · have hZI : (Z : Int) - 2 - (a0.size : Int) = 0 := by omega
    rw [hl] at P1 hs0' hP0 hcat
    clear hl
    go_enter Tryd.func3, Tryd.ntmps3
    go_wp2_with fail
    with_reducible refine (PA.out _).mono ?_
    rintro e w1 ⟨rfl, b⟩
    go_wp2_with fail
    with_reducible refine (P1.out _).mono ?_
    rintro e w' ⟨rfl, b'⟩
    replace b := bel_chain82 b b'
    clear b'
    go_wp2_with fail
    with_reducible refine (P2.out _).mono ?_
    rintro e w' ⟨rfl, b'⟩
    replace b := bel_chain82 b b'
    clear b'
    go_wp2_with fail
    with_reducible refine (P3.out _).mono ?_
    rintro e w' ⟨rfl, b'⟩
    replace b := bel_chain82 b b'
    clear b'
    go_wp2_with fail
    with_reducible refine (P4.out _).mono ?_
    rintro e w' ⟨rfl, b'⟩
    replace b := bel_chain82 b b'
    clear b'
    have hcv := bytes_conv w' (str l)
    have hz := bytes_new w' (str l)
    have hb2 := bytes_below w' (str l)
    have hcap := grownCap_ge w' (str l).size 0 5
    rw [show (str l).data.toList = l from by simp [str]] at hz
    rw [hs0'] at hcv hcap
    have hg := b.size
    replace b := bel_chain82 b hb2
    clear hb2
    generalize grownCap w' Z 0 5 = cap at *
    generalize Lib.bytesWorld w' 5 (str l) = w3 at *
    generalize w'.heap.size = g at *
    go_wp2_with fail
    with_reducible refine (P5.out _).mono ?_
    rintro e w' ⟨rfl, b'⟩
    replace b := bel_chain82 b b'
    clear b'
    go_wp2
    go_ret
    exact ⟨rfl, b⟩

end Go.Proofs.YtcgodbdakbekjaaDoor
