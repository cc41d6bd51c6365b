/-
  Laws of chapter 12 over what package ratchet's functions tell: RatchetTells (a part).
-/
import Derived.Test.YtlhlpcfjoccgcaaRat2
import Derived.Test.YtlhlpcfjoccgcaaRat1
namespace Go.Proofs.Ytlhlpcfjoccgcaa
open Go.RowKit
set_option linter.unusedVariables false
set_option maxRecDepth 100000
set_option linter.unusedSimpArgs false

theorem turn_one (key : ByteArray) (hk : key.size ≤ 1000000) (w : World) : Calls Try.prog 11 #[.string key, .int .i64 1] w fun e w' => e = .returned (.string (nextR key)) ∧ Below w.heap.size w w' := ref_turn key 1 w hk (by decide)

set_option maxRecDepth 100000 in
set_option maxHeartbeats 2000000 in
theorem ratchetTells_00 (K : RatchetKeeps) (key : ByteArray) (ep sq : Int) (secret salt : ByteArray) (w : World) (hk : key.size ≤ 100) (h1 : secret.size ≤ 100) (h2 : salt.size ≤ 100) (hq : -9223372036854775808 ≤ sq ∧ sq ≤ 9223372036854775807) (p0 : ep < 0) (s0 : 0 ≤ sq) : Calls Try.prog 3 #[.string key, .int .i64 ep, .int .i64 sq, .string secret, .string salt] w fun e w' => e = .returned (.bool true) ∧ Below w.heap.size w w' := by
  have PA : Hid _ := alive12_of K
  have PN : Hid _ := fun w => K.next key w (by omega)
  have PT1 : Hid _ := turn_one key (by omega)
  have PE0 := fun w => K.epoch sq w hq.1 hq.2
  have PO0 := fun w => K.nonce sq w hq.1 hq.2
  have PS : Hid _ := fun w => K.session secret salt w (by omega) (by omega)
  have PR : Hid _ := fun w => ref_session secret salt w (by omega) (by omega)
  have d0 : decide (100 < (key.size : Int)) = false := decide_eq_false (by omega)
  have d1 : decide (100 < (secret.size : Int)) = false := decide_eq_false (by omega)
  have d2 : decide (100 < (salt.size : Int)) = false := decide_eq_false (by omega)
  have s1 : decide (0 ≤ sq) = true := decide_eq_true s0
  have PRN : Hid _ := fun w => ref_nonce sq w s0 hq.2
  have q1 : IntKind.i64.wrap (sq.tdiv 8) = sq / 8 := by rw [Int.tdiv_eq_ediv_of_nonneg s0, IntKind.wrap_i64]; omega
  have q3 : sq.tdiv 8 = sq / 8 := Int.tdiv_eq_ediv_of_nonneg s0
  rw [epochR_yes s0] at PE0
  have PE : Hid _ := PE0
  have PO : Hid _ := PO0
  have e2 := str_beq_self (nonceR sq)
  clear PE0 PO0
  generalize nonceR sq = NO at *
  generalize hsd : sq / 8 = SD at *
  have e1 := str_beq_self (nextR key)
  have e3 := str_beq_self (keyS secret salt upW)
  have e4 := str_beq_self (keyS secret salt downW)
  have e5 := str_beq_self ⟨#[]⟩
  have e7 := empty_isR
  have e8 := empty_toR
  generalize nextR key = NX at *
  generalize keyS secret salt upW = U at *
  generalize keyS secret salt downW = D at *
  have p1 : decide (12 < ep) = false := decide_eq_false (by omega)
  have p2 : decide (ep < 0) = true := decide_eq_true p0
  have PX : Hid _ := fun w => K.atNo key ep w (by omega) (by omega)
  go_enter Try.func3, Try.ntmps3
  go_wp2_with fail
  with_reducible refine (PA.out _).mono ?_
  rintro e w1 ⟨rfl, b1⟩
  go_wp2_with fail
  with_reducible refine (PX.out _).mono ?_
  rintro e x14 ⟨rfl, b2⟩
  replace b1 := bel12 b1 b2
  clear b2
  go_wp2_with fail
  with_reducible refine (PRN.out _).mono ?_
  rintro e x15 ⟨rfl, b2⟩
  replace b1 := bel12 b1 b2
  clear b2
  go_wp2_with fail
  with_reducible refine (PN.out _).mono ?_
  rintro e x16 ⟨rfl, b2⟩
  replace b1 := bel12 b1 b2
  clear b2
  go_wp2_with fail
  with_reducible refine (PT1.out _).mono ?_
  rintro e x17 ⟨rfl, b2⟩
  replace b1 := bel12 b1 b2
  clear b2
  go_wp2_with fail
  with_reducible refine (PE.out _).mono ?_
  rintro e x18 ⟨rfl, b2⟩
  replace b1 := bel12 b1 b2
  clear b2
  go_wp2_with fail
  with_reducible refine (PO.out _).mono ?_
  rintro e x19 ⟨rfl, b2⟩
  replace b1 := bel12 b1 b2
  clear b2
  go_wp2_with fail
  with_reducible refine (PS.out _).mono ?_
  rintro e x20 ⟨rfl, b2⟩
  replace b1 := bel12 b1 b2
  clear b2
  go_wp2_with fail
  with_reducible refine (PR.out _).mono ?_
  rintro e x21 ⟨rfl, b2⟩
  replace b1 := bel12 b1 b2
  clear b2
  rename_i K0 hK0
  refine hK0 _ _ ?_
  refine step_keys (by rfl) _ _ rfl U D rfl rfl ?_
  go_wp2
  go_ret
  exact ⟨rfl, b1⟩

set_option maxRecDepth 100000 in
set_option maxHeartbeats 2000000 in
theorem ratchetTells_01 (K : RatchetKeeps) (key : ByteArray) (ep sq : Int) (secret salt : ByteArray) (w : World) (hk : key.size ≤ 100) (h1 : secret.size ≤ 100) (h2 : salt.size ≤ 100) (hq : -9223372036854775808 ≤ sq ∧ sq ≤ 9223372036854775807) (p0 : ep < 0) (s0 : sq < 0) : Calls Try.prog 3 #[.string key, .int .i64 ep, .int .i64 sq, .string secret, .string salt] w fun e w' => e = .returned (.bool true) ∧ Below w.heap.size w w' := by
  have PA : Hid _ := alive12_of K
  have PN : Hid _ := fun w => K.next key w (by omega)
  have PT1 : Hid _ := turn_one key (by omega)
  have PE0 := fun w => K.epoch sq w hq.1 hq.2
  have PO0 := fun w => K.nonce sq w hq.1 hq.2
  have PS : Hid _ := fun w => K.session secret salt w (by omega) (by omega)
  have PR : Hid _ := fun w => ref_session secret salt w (by omega) (by omega)
  have d0 : decide (100 < (key.size : Int)) = false := decide_eq_false (by omega)
  have d1 : decide (100 < (secret.size : Int)) = false := decide_eq_false (by omega)
  have d2 : decide (100 < (salt.size : Int)) = false := decide_eq_false (by omega)
  have s1 : decide (0 ≤ sq) = false := decide_eq_false (by omega)
  rw [epochR_no s0] at PE0
  rw [nonceR_no s0] at PO0
  have PE : Hid _ := PE0
  have PO : Hid _ := PO0
  clear PE0 PO0
  have e1 := str_beq_self (nextR key)
  have e3 := str_beq_self (keyS secret salt upW)
  have e4 := str_beq_self (keyS secret salt downW)
  have e5 := str_beq_self ⟨#[]⟩
  have e7 := empty_isR
  have e8 := empty_toR
  generalize nextR key = NX at *
  generalize keyS secret salt upW = U at *
  generalize keyS secret salt downW = D at *
  have p1 : decide (12 < ep) = false := decide_eq_false (by omega)
  have p2 : decide (ep < 0) = true := decide_eq_true p0
  have PX : Hid _ := fun w => K.atNo key ep w (by omega) (by omega)
  go_enter Try.func3, Try.ntmps3
  go_wp2_with fail
  with_reducible refine (PA.out _).mono ?_
  rintro e w1 ⟨rfl, b1⟩
  go_wp2_with fail
  with_reducible refine (PX.out _).mono ?_
  rintro e x22 ⟨rfl, b2⟩
  replace b1 := bel12 b1 b2
  clear b2
  go_wp2_with fail
  with_reducible refine (PN.out _).mono ?_
  rintro e x23 ⟨rfl, b2⟩
  replace b1 := bel12 b1 b2
  clear b2
  go_wp2_with fail
  with_reducible refine (PT1.out _).mono ?_
  rintro e x24 ⟨rfl, b2⟩
  replace b1 := bel12 b1 b2
  clear b2
  go_wp2_with fail
  with_reducible refine (PE.out _).mono ?_
  rintro e x25 ⟨rfl, b2⟩
  replace b1 := bel12 b1 b2
  clear b2
  go_wp2_with fail
  with_reducible refine (PO.out _).mono ?_
  rintro e x26 ⟨rfl, b2⟩
  replace b1 := bel12 b1 b2
  clear b2
  go_wp2_with fail
  with_reducible refine (PS.out _).mono ?_
  rintro e x27 ⟨rfl, b2⟩
  replace b1 := bel12 b1 b2
  clear b2
  go_wp2_with fail
  with_reducible refine (PR.out _).mono ?_
  rintro e x28 ⟨rfl, b2⟩
  replace b1 := bel12 b1 b2
  clear b2
  rename_i K0 hK0
  refine hK0 _ _ ?_
  refine step_keys (by rfl) _ _ rfl U D rfl rfl ?_
  go_wp2
  go_ret
  exact ⟨rfl, b1⟩

end Go.Proofs.Ytlhlpcfjoccgcaa
