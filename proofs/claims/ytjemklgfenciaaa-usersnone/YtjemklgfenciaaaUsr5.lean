/-
  Laws of chapter 14 over what package users tells: UsersApart, UsersNone.
-/
import Derived.Test.YtjemklgfenciaaaUsr3
namespace Go.Proofs.Ytjemklgfenciaaa
open Go.RowKit
set_option linter.unusedVariables false
set_option maxRecDepth 100000
set_option linter.unusedSimpArgs false

theorem users_two (n s m t : ByteArray) (h1 : userOkU n s = true) (h2 : userOkU m t = true) (hne : m ≠ n) : usersOk [(n, s), (m, t)] = true := by
  unfold usersOk
  simp [nodupL, hasL, h1, h2, hne]
set_option maxRecDepth 100000 in
set_option maxHeartbeats 4000000 in
theorem usersApart_of (K : UsersKeeps) (fails : Int) (now : Int) (w : World) (hfails : -9223372036854775808 ≤ fails ∧ fails ≤ 9223372036854775807) (hnow : -9223372036854775808 ≤ now ∧ now ≤ 9223372036854775807) :
    Calls Try.prog 5 #[.int .i64 fails, .int .i64 now] w fun e w' => e = .returned (.bool true) ∧ Below w.heap.size w w' := by
  have PA : Hid _ := alive14_of K
  by_cases c0 : fails < 0
  · have d0 : decide (fails < 0) = true := decide_eq_true c0
    go_enter Try.func5, Try.ntmps5
    go_wp2_with fail
    with_reducible refine (PA.out _).mono ?_
    rintro e w1 ⟨rfl, b⟩
    go_wp2
    go_ret
    exact ⟨rfl, b⟩
  have d0 : decide (fails < 0) = false := decide_eq_false c0
  by_cases c1 : 10 < fails
  · have d1 : decide (10 < fails) = true := decide_eq_true c1
    go_enter Try.func5, Try.ntmps5
    go_wp2_with fail
    with_reducible refine (PA.out _).mono ?_
    rintro e w1 ⟨rfl, b⟩
    go_wp2
    go_ret
    exact ⟨rfl, b⟩
  have d1 : decide (10 < fails) = false := decide_eq_false c1
  by_cases c2 : now < 0
  · have d2 : decide (now < 0) = true := decide_eq_true c2
    go_enter Try.func5, Try.ntmps5
    go_wp2_with fail
    with_reducible refine (PA.out _).mono ?_
    rintro e w1 ⟨rfl, b⟩
    go_wp2
    go_ret
    exact ⟨rfl, b⟩
  have d2 : decide (now < 0) = false := decide_eq_false c2
  by_cases c3 : 1000 < now
  · have d3 : decide (1000 < now) = true := decide_eq_true c3
    go_enter Try.func5, Try.ntmps5
    go_wp2_with fail
    with_reducible refine (PA.out _).mono ?_
    rintro e w1 ⟨rfl, b⟩
    go_wp2
    go_ret
    exact ⟨rfl, b⟩
  have d3 : decide (1000 < now) = false := decide_eq_false c3
  obtain ⟨N, rfl⟩ : ∃ N : Nat, fails = (N : Int) := ⟨fails.toNat, by omega⟩
  have F1 : Hid _ := fun w => law5_fill32 ⟨#[115]⟩ w (by decide)
  have hs : (fillS ⟨#[115]⟩ 32).size = 32 := fillS_size _ _
  generalize fillS ⟨#[115]⟩ 32 = S at *
  have hsm : S.size ≤ maxLen := by rw [hs]; decide
  have z3 : (⟨#[97, 110, 110]⟩ : ByteArray).size ≤ maxLen := by decide
  have zb : (⟨#[98, 111, 98]⟩ : ByteArray).size ≤ maxLen := by decide
  have iw : I64U now := hnow
  have P1 : Hid (∀ w1, Here w [] w1 → Calls Try.prog 8 #[.slice (some ⟨w1.heap.size, 0, none⟩) 2 2] (w1.alloc (.cells #[.string ⟨#[97, 110, 110]⟩, .string S, .string ⟨#[98, 111, 98]⟩, .string S] 29)) fun e w' => ∃ p, e = .returned (.tuple #[.pointer (some ⟨p, 0, none⟩), .int .i64 0]) ∧ Here w [UsersTh K p [failTo S ⟨#[97, 110, 110]⟩ now 0, failTo S ⟨#[98, 111, 98]⟩ now 0]] w') := fun w1 h =>
    Here.newUsers K (h.alloc _) _ 2 2 (fun i => if i = 0 then (⟨#[97, 110, 110]⟩, S) else (⟨#[98, 111, 98]⟩, S)) (pairs_new2 w1 ⟨#[97, 110, 110]⟩ S ⟨#[98, 111, 98]⟩ S) (by decide) (fun i hi => by by_cases e : i = 0 <;> simp only [e, if_true, if_false] <;> exact ⟨by assumption, hsm⟩) (users_two ⟨#[97, 110, 110]⟩ S ⟨#[98, 111, 98]⟩ S (annOk S hs) (bobOk S hs) ann_bob)
  have P2 : Hid (∀ k p w1, Here w [UsersTh K p [failTo S ⟨#[97, 110, 110]⟩ now k, failTo S ⟨#[98, 111, 98]⟩ now 0]] w1 → Calls Try.prog 10 #[.pointer (some ⟨p, 0, none⟩), .string ⟨#[97, 110, 110]⟩, .int .i64 now] w1 fun e w' => ∃ b, e = .returned (.bool b) ∧ Here w [UsersTh K p [failTo S ⟨#[97, 110, 110]⟩ now (k + 1), failTo S ⟨#[98, 111, 98]⟩ now 0]] w') := fun k p w1 h => by
    have := h.userFail 0 ⟨#[97, 110, 110]⟩ now rfl z3 iw
    rw [two_fail S ⟨#[97, 110, 110]⟩ S ⟨#[98, 111, 98]⟩ now k (by omega)] at this
    exact this.mono fun e w' hh => ⟨_, hh⟩
  have P3 : Hid (∀ k p w1, Here w [UsersTh K p [failTo S ⟨#[97, 110, 110]⟩ now k, failTo S ⟨#[98, 111, 98]⟩ now 0]] w1 → Calls Try.prog 12 #[.pointer (some ⟨p, 0, none⟩), .string ⟨#[97, 110, 110]⟩, .int .i64 now] w1 fun e w' => e = .returned (.bool (decide (3 ≤ k))) ∧ Here w [UsersTh K p [failTo S ⟨#[97, 110, 110]⟩ now k, failTo S ⟨#[98, 111, 98]⟩ now 0]] w') := fun k p w1 h => by
    have := h.userLocked 0 ⟨#[97, 110, 110]⟩ now rfl z3 iw
    rw [two_locked_a, decide_eq_true (show now ≤ now + 20 by omega), Bool.and_true] at this
    exact this
  have P4 : Hid (∀ k p w1, Here w [UsersTh K p [failTo S ⟨#[97, 110, 110]⟩ now k, failTo S ⟨#[98, 111, 98]⟩ now 0]] w1 → Calls Try.prog 12 #[.pointer (some ⟨p, 0, none⟩), .string ⟨#[98, 111, 98]⟩, .int .i64 now] w1 fun e w' => e = .returned (.bool false) ∧ Here w [UsersTh K p [failTo S ⟨#[97, 110, 110]⟩ now k, failTo S ⟨#[98, 111, 98]⟩ now 0]] w') := fun k p w1 h => by
    have := h.userLocked 0 ⟨#[98, 111, 98]⟩ now rfl zb iw
    rw [two_locked_b S ⟨#[97, 110, 110]⟩ S ⟨#[98, 111, 98]⟩ now now k ann_bob] at this
    exact this
  have P5 : Hid (∀ k p w1, Here w [UsersTh K p [failTo S ⟨#[97, 110, 110]⟩ now k, failTo S ⟨#[98, 111, 98]⟩ now 0]] w1 → Calls Try.prog 13 #[.pointer (some ⟨p, 0, none⟩), .string ⟨#[98, 111, 98]⟩] w1 fun e w' => e = .returned (.int .i64 0) ∧ Here w [UsersTh K p [failTo S ⟨#[97, 110, 110]⟩ now k, failTo S ⟨#[98, 111, 98]⟩ now 0]] w') := fun k p w1 h => by
    have := h.userFails 0 ⟨#[98, 111, 98]⟩ rfl zb
    rw [two_fails_b S ⟨#[97, 110, 110]⟩ S ⟨#[98, 111, 98]⟩ now k ann_bob] at this
    exact this
  have P6 : Hid (∀ k p w1, Here w [UsersTh K p [failTo S ⟨#[97, 110, 110]⟩ now k, failTo S ⟨#[98, 111, 98]⟩ now 0]] w1 → Calls Try.prog 13 #[.pointer (some ⟨p, 0, none⟩), .string ⟨#[97, 110, 110]⟩] w1 fun e w' => e = .returned (.int .i64 ((k % 3 : Nat) : Int)) ∧ Here w [UsersTh K p [failTo S ⟨#[97, 110, 110]⟩ now k, failTo S ⟨#[98, 111, 98]⟩ now 0]] w') := fun k p w1 h => by
    have := h.userFails 0 ⟨#[97, 110, 110]⟩ rfl z3
    rw [two_fails_a] at this
    exact this
  go_enter Try.func5, Try.ntmps5
  go_wp2_with fail
  with_reducible refine (PA.out _).mono ?_
  rintro e w1 ⟨rfl, b1⟩
  clear PA
  go_wp2_with fail
  with_reducible refine (F1.out _).mono ?_
  rintro e w' ⟨rfl, rfl⟩
  go_wp2_with fail
  with_reducible refine (P1.out _ (Here.start' b1)).mono ?_
  rintro e w2 ⟨p, rfl, h2⟩
  clear P1 F1 b1
  have H2 : Hid (Here w [UsersTh K p [failTo S ⟨#[97, 110, 110]⟩ now 0, failTo S ⟨#[98, 111, 98]⟩ now 0]] w2) := h2
  clear h2
  go_wp2_with fail
  go_loopw [8] (fun i wr => ∃ k : Nat, k ≤ N ∧ i = .int .i64 k ∧ Here w [UsersTh K p [failTo S ⟨#[97, 110, 110]⟩ now k, failTo S ⟨#[98, 111, 98]⟩ now 0]] wr) (fun i _ => N - (intOf i).toNat)
  case atStart => exact ⟨0, Nat.zero_le _, rfl, H2.out⟩
  case round =>
    clear H2
    obtain ⟨k, hkn, rfl, hh⟩ := hrel
    by_cases hlt : k < N
    · have dlt : decide ((k : Int) < (N : Int)) = true := decide_eq_true (by omega)
      have hF := P2.out k _ _ hh
      clear hh
      go_wp2_with fail
      with_reducible refine hF.mono ?_
      rintro e w3 ⟨b3, rfl, h3⟩
      go_wp2
      go_roundw
      case rel => exact ⟨k + 1, by omega, by go_num, h3⟩
      case measure => simp [intOf]; omega
    · obtain rfl : k = N := by omega
      have dlt : decide ((k : Int) < (k : Int)) = false := by simp
      have em : Int.tmod (k : Int) 3 = ((k % 3 : Nat) : Int) := by rw [Int.tmod_eq_emod_of_nonneg (by omega)]; omega
      have hL := P3.out k _ _ hh
      have d3 : decide ((3 : Int) ≤ (k : Int)) = decide (3 ≤ k) := decide_eq_decide.2 (by omega)
      generalize decide (3 ≤ k) = B3 at *
      clear hh P2 P3
      cases B3 with
      | true =>
        go_wp2_with fail
        with_reducible refine hL.mono ?_
        rintro e w3 ⟨rfl, h3⟩
        go_wp2_with fail
        with_reducible refine (P4.out _ _ _ h3).mono ?_
        rintro e w4 ⟨rfl, h4⟩
        go_wp2_with fail
        with_reducible refine (P5.out _ _ _ h4).mono ?_
        rintro e w5 ⟨rfl, h5⟩
        go_wp2_with fail
        with_reducible refine (P6.out _ _ _ h5).mono ?_
        rintro e w6 ⟨rfl, h6⟩
        generalize k % 3 = r at *
        go_wp2
        go_ret
        exact ⟨rfl, h6.bel⟩
      | false =>
        go_wp2_with fail
        with_reducible refine hL.mono ?_
        rintro e w3 ⟨rfl, h3⟩
        go_wp2_with fail
        with_reducible refine (P4.out _ _ _ h3).mono ?_
        rintro e w4 ⟨rfl, h4⟩
        go_wp2_with fail
        with_reducible refine (P5.out _ _ _ h4).mono ?_
        rintro e w5 ⟨rfl, h5⟩
        go_wp2_with fail
        with_reducible refine (P6.out _ _ _ h5).mono ?_
        rintro e w6 ⟨rfl, h6⟩
        generalize k % 3 = r at *
        go_wp2
        go_ret
        exact ⟨rfl, h6.bel⟩

set_option maxRecDepth 100000 in
set_option maxHeartbeats 4000000 in
theorem usersNone_of (K : UsersKeeps) (name : ByteArray) (n : Int) (now : Int) (w : World) (hname : name.size ≤ 9223372036854775807) (hn : -9223372036854775808 ≤ n ∧ n ≤ 9223372036854775807) (hnow : -9223372036854775808 ≤ now ∧ now ≤ 9223372036854775807) :
    Calls Try.prog 6 #[.string name, .int .i64 n, .int .i64 now] w fun e w' => e = .returned (.bool true) ∧ Below w.heap.size w w' := by
  have PA : Hid _ := alive14_of K
  by_cases ca : name = ⟨#[97, 110, 110]⟩
  · have da : (name.toList == (⟨#[97, 110, 110]⟩ : ByteArray).toList) = true := by rw [str_beq]; exact decide_eq_true ca
    go_enter Try.func6, Try.ntmps6
    go_wp2_with fail
    with_reducible refine (PA.out _).mono ?_
    rintro e w1 ⟨rfl, b⟩
    go_wp2
    go_ret
    exact ⟨rfl, b⟩
  have da : (name.toList == (⟨#[97, 110, 110]⟩ : ByteArray).toList) = false := by rw [str_beq]; exact decide_eq_false ca
  have da2 : (name.toList == [97, 110, 110]) = false := by
    have e : (⟨#[97, 110, 110]⟩ : ByteArray).toList = [97, 110, 110] := by rw [ByteArray.toList_eq]
    rw [← e]
    exact da
  by_cases c0 : 60 < (name.size : Int)
  · have d0 : decide (60 < (name.size : Int)) = true := decide_eq_true c0
    go_enter Try.func6, Try.ntmps6
    go_wp2_with fail
    with_reducible refine (PA.out _).mono ?_
    rintro e w1 ⟨rfl, b⟩
    go_wp2
    go_ret
    exact ⟨rfl, b⟩
  have d0 : decide (60 < (name.size : Int)) = false := decide_eq_false c0
  by_cases c1 : n < 0
  · have d1 : decide (n < 0) = true := decide_eq_true c1
    go_enter Try.func6, Try.ntmps6
    go_wp2_with fail
    with_reducible refine (PA.out _).mono ?_
    rintro e w1 ⟨rfl, b⟩
    go_wp2
    go_ret
    exact ⟨rfl, b⟩
  have d1 : decide (n < 0) = false := decide_eq_false c1
  by_cases c2 : 10 < n
  · have d2 : decide (10 < n) = true := decide_eq_true c2
    go_enter Try.func6, Try.ntmps6
    go_wp2_with fail
    with_reducible refine (PA.out _).mono ?_
    rintro e w1 ⟨rfl, b⟩
    go_wp2
    go_ret
    exact ⟨rfl, b⟩
  have d2 : decide (10 < n) = false := decide_eq_false c2
  obtain ⟨N, rfl⟩ : ∃ N : Nat, n = (N : Int) := ⟨n.toNat, by omega⟩
  have F1 : Hid _ := fun w => law5_fill32 ⟨#[115]⟩ w (by decide)
  have hs : (fillS ⟨#[115]⟩ 32).size = 32 := fillS_size _ _
  generalize fillS ⟨#[115]⟩ 32 = S at *
  have hsm : S.size ≤ maxLen := by rw [hs]; decide
  have z3 : (⟨#[97, 110, 110]⟩ : ByteArray).size ≤ maxLen := by decide
  have zn : name.size ≤ maxLen := hname
  have iw : I64U now := hnow
  obtain ⟨n1, n2, n3, n4, n5⟩ := none_one (failTo S ⟨#[97, 110, 110]⟩ 0 0) now name ca
  have P1 : Hid (∀ w1, Here w [] w1 → Calls Try.prog 8 #[.slice (some ⟨w1.heap.size, 0, none⟩) 1 1] (w1.alloc (.cells #[.string ⟨#[97, 110, 110]⟩, .string S] 29)) fun e w' => ∃ p, e = .returned (.tuple #[.pointer (some ⟨p, 0, none⟩), .int .i64 0]) ∧ Here w [UsersTh K p [failTo S ⟨#[97, 110, 110]⟩ 0 0]] w') := fun w1 h => Here.oneUser K h ⟨#[97, 110, 110]⟩ S 1 z3 hsm (annOk S hs)
  have P2 : Hid (∀ p w1, Here w [UsersTh K p [failTo S ⟨#[97, 110, 110]⟩ 0 0]] w1 → Calls Try.prog 10 #[.pointer (some ⟨p, 0, none⟩), .string name, .int .i64 now] w1 fun e w' => e = .returned (.bool false) ∧ Here w [UsersTh K p [failTo S ⟨#[97, 110, 110]⟩ 0 0]] w') := fun p w1 h => by
    have := h.userFail 0 name now rfl zn iw
    rw [n1, n2] at this
    exact this
  have P3 : Hid (∀ p w1, Here w [UsersTh K p [failTo S ⟨#[97, 110, 110]⟩ 0 0]] w1 → Calls Try.prog 11 #[.pointer (some ⟨p, 0, none⟩), .string name] w1 fun e w' => e = .returned (.tuple #[]) ∧ Here w [UsersTh K p [failTo S ⟨#[97, 110, 110]⟩ 0 0]] w') := fun p w1 h => by
    have := h.userGood 0 name rfl zn
    rw [n3] at this
    exact this
  have P4 : Hid (∀ p w1, Here w [UsersTh K p [failTo S ⟨#[97, 110, 110]⟩ 0 0]] w1 → Calls Try.prog 15 #[.pointer (some ⟨p, 0, none⟩), .string name] w1 fun e w' => (∃ s, e = .returned (.tuple #[.string s, .bool false])) ∧ Here w [UsersTh K p [failTo S ⟨#[97, 110, 110]⟩ 0 0]] w') := fun p w1 h => h.userSecretNo 0 name rfl zn (has_one_no (failTo S ⟨#[97, 110, 110]⟩ 0 0) name ca)
  have P5 : Hid (∀ p w1, Here w [UsersTh K p [failTo S ⟨#[97, 110, 110]⟩ 0 0]] w1 → Calls Try.prog 12 #[.pointer (some ⟨p, 0, none⟩), .string name, .int .i64 now] w1 fun e w' => e = .returned (.bool false) ∧ Here w [UsersTh K p [failTo S ⟨#[97, 110, 110]⟩ 0 0]] w') := fun p w1 h => by
    have := h.userLocked 0 name now rfl zn iw
    rw [n4] at this
    exact this
  have P6 : Hid (∀ p w1, Here w [UsersTh K p [failTo S ⟨#[97, 110, 110]⟩ 0 0]] w1 → Calls Try.prog 13 #[.pointer (some ⟨p, 0, none⟩), .string name] w1 fun e w' => e = .returned (.int .i64 0) ∧ Here w [UsersTh K p [failTo S ⟨#[97, 110, 110]⟩ 0 0]] w') := fun p w1 h => by
    have := h.userFails 0 name rfl zn
    rw [n5] at this
    exact this
  have P7 : Hid (∀ p w1, Here w [UsersTh K p [failTo S ⟨#[97, 110, 110]⟩ 0 0]] w1 → Calls Try.prog 13 #[.pointer (some ⟨p, 0, none⟩), .string ⟨#[97, 110, 110]⟩] w1 fun e w' => e = .returned (.int .i64 0) ∧ Here w [UsersTh K p [failTo S ⟨#[97, 110, 110]⟩ 0 0]] w') := fun p w1 h => by
    have := h.userFails 0 ⟨#[97, 110, 110]⟩ rfl z3
    rw [one_fails] at this
    exact this
  clear n1 n2 n3 n4 n5
  go_enter Try.func6, Try.ntmps6
  go_wp2_with fail
  with_reducible refine (PA.out _).mono ?_
  rintro e w1 ⟨rfl, b1⟩
  clear PA
  go_wp2_with fail
  with_reducible refine (F1.out _).mono ?_
  rintro e w' ⟨rfl, rfl⟩
  go_wp2_with fail
  with_reducible refine (P1.out _ (Here.start' b1)).mono ?_
  rintro e w2 ⟨p, rfl, h2⟩
  clear P1 F1 b1
  have H2 : Hid (Here w [UsersTh K p [failTo S ⟨#[97, 110, 110]⟩ 0 0]] w2) := h2
  clear h2
  go_wp2_with fail
  go_loopw [9] (fun i wr => ∃ k : Nat, k ≤ N ∧ i = .int .i64 k ∧ Here w [UsersTh K p [failTo S ⟨#[97, 110, 110]⟩ 0 0]] wr) (fun i _ => N - (intOf i).toNat)
  case atStart => exact ⟨0, Nat.zero_le _, rfl, H2.out⟩
  case round =>
    clear H2
    obtain ⟨k, hkn, rfl, hh⟩ := hrel
    by_cases hlt : k < N
    · have dlt : decide ((k : Int) < (N : Int)) = true := decide_eq_true (by omega)
      go_wp2_with fail
      with_reducible refine (P2.out _ _ hh).mono ?_
      rintro e w3 ⟨rfl, h3⟩
      clear hh
      go_wp2_with fail
      with_reducible refine (P3.out _ _ h3).mono ?_
      rintro e w4 ⟨rfl, h4⟩
      go_wp2
      go_roundw
      case rel => exact ⟨k + 1, by omega, by go_num, h4⟩
      case measure => simp [intOf]; omega
    · obtain rfl : k = N := by omega
      have dlt : decide ((k : Int) < (k : Int)) = false := by simp
      go_wp2_with fail
      with_reducible refine (P4.out _ _ hh).mono ?_
      rintro e w3 ⟨⟨s3, rfl⟩, h3⟩
      clear hh
      go_wp2_with fail
      with_reducible refine (P5.out _ _ h3).mono ?_
      rintro e w4 ⟨rfl, h4⟩
      go_wp2_with fail
      with_reducible refine (P6.out _ _ h4).mono ?_
      rintro e w5 ⟨rfl, h5⟩
      go_wp2_with fail
      with_reducible refine (P7.out _ _ h5).mono ?_
      rintro e w6 ⟨rfl, h6⟩
      go_wp2
      go_ret
      exact ⟨rfl, h6.bel⟩

end Go.Proofs.Ytjemklgfenciaaa
