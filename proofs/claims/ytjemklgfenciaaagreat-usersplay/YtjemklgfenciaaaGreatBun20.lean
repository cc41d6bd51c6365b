/-
  Parts of this proof, one behind the other: Usr3.
-/
import Derived.Test.YtjemklgfenciaaaGreatBun15
import Derived.Test.YtjemklgfenciaaaGreatBun2
import Derived.Test.YtjemklgfenciaaaGreatBun8
import Derived.Test.YtjemklgfenciaaaGreatBun16

/-
  The laws' alive over what package users tells.
-/
namespace Go.Proofs.YtjemklgfenciaaaGreat
open Go.RowKit
set_option linter.unusedVariables false
set_option maxRecDepth 100000
set_option linter.unusedSimpArgs false

theorem Here.oneUser (K : UsersKeeps) {w0 w : World} {l : List Thing} (h : Here w0 l w) (n s : ByteArray) (c : Nat) (hn : n.size ≤ maxLen) (hs : s.size ≤ maxLen) (hok : userOkU n s = true) :
    Calls Tryz.prog 6 #[.slice (some ⟨w.heap.size, 0, none⟩) 1 c] (w.alloc (.cells #[.string n, .string s] 32)) fun e w' => ∃ p, e = .returned (.tuple #[.pointer (some ⟨p, 0, none⟩), .int .i64 0]) ∧ Here w0 (UsersTh K p [failTo s n 0 0] :: l) w' :=
  Here.newUsers K (h.alloc _) _ 1 c (fun _ => (n, s)) (pairs_new w n s) (by decide) (fun _ _ => ⟨hn, hs⟩) ((users_one n s).trans hok)
theorem failTo_any (s n : ByteArray) (a b : Int) : failTo s n a 0 = failTo s n b 0 := rfl
theorem annOk (s : ByteArray) (h : s.size = 32) : userOkU ⟨#[97, 110, 110]⟩ s = true := by
  unfold userOkU
  rw [show nameOkU ⟨#[97, 110, 110]⟩ = true by decide, decide_eq_true h]
  rfl
theorem bobOk (s : ByteArray) (h : s.size = 32) : userOkU ⟨#[98, 111, 98]⟩ s = true := by
  unfold userOkU
  rw [show nameOkU ⟨#[98, 111, 98]⟩ = true by decide, decide_eq_true h]
  rfl
theorem ann_bob : (⟨#[98, 111, 98]⟩ : ByteArray) ≠ ⟨#[97, 110, 110]⟩ := by decide

set_option maxRecDepth 100000 in
set_option maxHeartbeats 2000000 in
theorem alive14_of (K : UsersKeeps) (w : World) : Calls Tryz.prog 4 #[] w fun e w' => e = .returned (.bool true) ∧ Below w.heap.size w w' := by
  have F1 : Hid _ := fun w => law5_fill32 ⟨#[115]⟩ w (by decide)
  have hs : (fillS ⟨#[115]⟩ 32).size = 32 := fillS_size _ _
  generalize fillS ⟨#[115]⟩ 32 = S at *
  have es := str_beq_self S
  have z3 : (⟨#[97, 110, 110]⟩ : ByteArray).size ≤ maxLen := by decide
  have zb : (⟨#[98, 111, 98]⟩ : ByteArray).size ≤ maxLen := by decide
  have i5 : I64U 5 := by decide
  have P1 := Here.oneUser K (Here.start w) ⟨#[97, 110, 110]⟩ S 1 z3 (by rw [hs]; decide) (annOk S hs)
  have P2 : Hid (∀ k p w1, Here w [UsersTh K p [failTo S ⟨#[97, 110, 110]⟩ 5 k]] w1 → Calls Tryz.prog 15 #[.pointer (some ⟨p, 0, none⟩), .string ⟨#[97, 110, 110]⟩, .int .i64 5] w1 fun e w' => e = .returned (.bool (decide ((k + 1) % 3 = 0))) ∧ Here w [UsersTh K p [failTo S ⟨#[97, 110, 110]⟩ 5 (k + 1)]] w') := fun k p w1 h => by
    have := h.userFail 0 ⟨#[97, 110, 110]⟩ 5 rfl z3 i5
    obtain ⟨e1, e2⟩ := one_fail S ⟨#[97, 110, 110]⟩ 5 k (by decide)
    rw [e1, e2] at this
    exact this
  have P3 : Hid (∀ p w1, Here w [UsersTh K p [failTo S ⟨#[97, 110, 110]⟩ 5 3]] w1 → Calls Tryz.prog 13 #[.pointer (some ⟨p, 0, none⟩), .string ⟨#[97, 110, 110]⟩] w1 fun e w' => e = .returned (.tuple #[.string S, .bool true]) ∧ Here w [UsersTh K p [failTo S ⟨#[97, 110, 110]⟩ 5 3]] w') := fun p w1 h => by
    have := h.userSecret 0 ⟨#[97, 110, 110]⟩ rfl z3 (has_one (failTo S ⟨#[97, 110, 110]⟩ 5 3) _ rfl)
    rw [show atU [failTo S ⟨#[97, 110, 110]⟩ 5 3] ⟨#[97, 110, 110]⟩ = failTo S ⟨#[97, 110, 110]⟩ 5 3 from at_one (failTo S ⟨#[97, 110, 110]⟩ 5 3)] at this
    exact this
  have P4 : Hid (∀ (t : Int) p w1, I64U t → Here w [UsersTh K p [failTo S ⟨#[97, 110, 110]⟩ 5 3]] w1 → Calls Tryz.prog 19 #[.pointer (some ⟨p, 0, none⟩), .string ⟨#[97, 110, 110]⟩, .int .i64 t] w1 fun e w' => e = .returned (.bool (decide (t ≤ 25))) ∧ Here w [UsersTh K p [failTo S ⟨#[97, 110, 110]⟩ 5 3]] w') := fun t p w1 ht h => by
    have := h.userLocked 0 ⟨#[97, 110, 110]⟩ t rfl z3 ht
    rw [one_locked] at this
    exact this
  have P5 : Hid (∀ p w1, Here w [UsersTh K p [failTo S ⟨#[97, 110, 110]⟩ 5 3]] w1 → Calls Tryz.prog 19 #[.pointer (some ⟨p, 0, none⟩), .string ⟨#[98, 111, 98]⟩, .int .i64 5] w1 fun e w' => e = .returned (.bool false) ∧ Here w [UsersTh K p [failTo S ⟨#[97, 110, 110]⟩ 5 3]] w') := fun p w1 h => by
    have := h.userLocked 0 ⟨#[98, 111, 98]⟩ 5 rfl zb i5
    rw [(none_one (failTo S ⟨#[97, 110, 110]⟩ 5 3) 5 ⟨#[98, 111, 98]⟩ ann_bob).2.2.2.1] at this
    exact this
  go_enter Tryz.func4, Tryz.ntmps4
  go_wp2_with fail
  with_reducible refine (F1.out _).mono ?_
  rintro e w' ⟨rfl, rfl⟩
  go_wp2_with fail
  with_reducible refine P1.mono ?_
  rintro e w1 ⟨p, rfl, h1⟩
  replace h1 : Here w [UsersTh K p [failTo S ⟨#[97, 110, 110]⟩ 5 0]] w1 := h1
  go_wp2_with fail
  with_reducible refine (P2.out 0 _ _ h1).mono ?_
  rintro e w2 ⟨rfl, h2⟩
  go_wp2_with fail
  with_reducible refine (P2.out 1 _ _ h2).mono ?_
  rintro e w3 ⟨rfl, h3⟩
  go_wp2_with fail
  with_reducible refine (P2.out 2 _ _ h3).mono ?_
  rintro e w4 ⟨rfl, h4⟩
  go_wp2_with fail
  with_reducible refine (P3.out _ _ h4).mono ?_
  rintro e w5 ⟨rfl, h5⟩
  go_wp2_with fail
  with_reducible refine (P4.out 25 _ _ (by decide) h5).mono ?_
  rintro e w6 ⟨rfl, h6⟩
  go_wp2_with fail
  with_reducible refine (P4.out 26 _ _ (by decide) h6).mono ?_
  rintro e w7 ⟨rfl, h7⟩
  go_wp2_with fail
  with_reducible refine (P5.out _ _ h7).mono ?_
  rintro e w8 ⟨rfl, h8⟩
  go_wp2
  go_ret
  exact ⟨rfl, h8.bel⟩

end Go.Proofs.YtjemklgfenciaaaGreat
