/-
  Laws of chapter 14 over what package users tells: UsersLock, UsersApart, UsersNone.
-/
import Derived.Test.YtjemklgfenciaaaUsr3
namespace Go.Proofs.Ytjemklgfenciaaa
open Go.RowKit
set_option linter.unusedVariables false
set_option maxRecDepth 100000
set_option linter.unusedSimpArgs false

set_option maxRecDepth 100000 in
set_option maxHeartbeats 4000000 in
theorem usersLock_of (K : UsersKeeps) (name : ByteArray) (now : Int) (ahead : Int) (good : Bool) (w : World) (hname : name.size ≤ 9223372036854775807) (hnow : -9223372036854775808 ≤ now ∧ now ≤ 9223372036854775807) (hahead : -9223372036854775808 ≤ ahead ∧ ahead ≤ 9223372036854775807) :
    Calls Try.prog 3 #[.string name, .int .i64 now, .int .i64 ahead, .bool good] w fun e w' => e = .returned (.bool true) ∧ Below w.heap.size w w' := by
  have PA : Hid _ := alive14_of K
  by_cases c0 : now < 0
  · have d0 : decide (now < 0) = true := decide_eq_true c0
    go_enter Try.func3, Try.ntmps3
    go_wp2_with fail
    with_reducible refine (PA.out _).mono ?_
    rintro e w1 ⟨rfl, b⟩
    go_wp2
    go_ret
    exact ⟨rfl, b⟩
  have d0 : decide (now < 0) = false := decide_eq_false c0
  by_cases c1 : 1000000 < now
  · have d1 : decide (1000000 < now) = true := decide_eq_true c1
    go_enter Try.func3, Try.ntmps3
    go_wp2_with fail
    with_reducible refine (PA.out _).mono ?_
    rintro e w1 ⟨rfl, b⟩
    go_wp2
    go_ret
    exact ⟨rfl, b⟩
  have d1 : decide (1000000 < now) = false := decide_eq_false c1
  by_cases c2 : ahead < 0
  · have d2 : decide (ahead < 0) = true := decide_eq_true c2
    go_enter Try.func3, Try.ntmps3
    go_wp2_with fail
    with_reducible refine (PA.out _).mono ?_
    rintro e w1 ⟨rfl, b⟩
    go_wp2
    go_ret
    exact ⟨rfl, b⟩
  have d2 : decide (ahead < 0) = false := decide_eq_false c2
  by_cases c3 : 3 ≤ ahead
  · have d3 : decide (3 ≤ ahead) = true := decide_eq_true c3
    go_enter Try.func3, Try.ntmps3
    go_wp2_with fail
    with_reducible refine (PA.out _).mono ?_
    rintro e w1 ⟨rfl, b⟩
    go_wp2
    go_ret
    exact ⟨rfl, b⟩
  have d3 : decide (3 ≤ ahead) = false := decide_eq_false c3
  by_cases c4 : 100 < (name.size : Int)
  · have d4 : decide (100 < (name.size : Int)) = true := decide_eq_true c4
    go_enter Try.func3, Try.ntmps3
    go_wp2_with fail
    with_reducible refine (PA.out _).mono ?_
    rintro e w1 ⟨rfl, b⟩
    go_wp2
    go_ret
    exact ⟨rfl, b⟩
  have d4 : decide (100 < (name.size : Int)) = false := decide_eq_false c4
  obtain ⟨N, rfl⟩ : ∃ N : Nat, ahead = (N : Int) := ⟨ahead.toNat, by omega⟩
  have F1 : Hid _ := fun w => law5_fill32 ⟨#[115]⟩ w (by decide)
  have hs : (fillS ⟨#[115]⟩ 32).size = 32 := fillS_size _ _
  generalize fillS ⟨#[115]⟩ 32 = S at *
  have hsm : S.size ≤ maxLen := by rw [hs]; decide
  have zn : name.size ≤ maxLen := hname
  have iw : I64U now := hnow
  have P2 : Hid (∀ k p w1, Here w [UsersTh K p [failTo S name now k]] w1 → Calls Try.prog 10 #[.pointer (some ⟨p, 0, none⟩), .string name, .int .i64 now] w1 fun e w' => e = .returned (.bool (decide ((k + 1) % 3 = 0))) ∧ Here w [UsersTh K p [failTo S name now (k + 1)]] w') := fun k p w1 h => by
    have := h.userFail 0 name now rfl zn iw
    obtain ⟨e1, e2⟩ := one_fail S name now k (by omega)
    rw [e1, e2] at this
    exact this
  have P3 : Hid (∀ k p w1, k < 3 → Here w [UsersTh K p [failTo S name now k]] w1 → Calls Try.prog 11 #[.pointer (some ⟨p, 0, none⟩), .string name] w1 fun e w' => e = .returned (.tuple #[]) ∧ Here w [UsersTh K p [failTo S name now 0]] w') := fun k p w1 hk h => by
    have := h.userGood 0 name rfl zn
    rw [one_good S name now k hk] at this
    exact this
  have P4 : Hid (∀ (k : Nat) (t : Int) p w1, I64U t → Here w [UsersTh K p [failTo S name now k]] w1 → Calls Try.prog 12 #[.pointer (some ⟨p, 0, none⟩), .string name, .int .i64 t] w1 fun e w' => e = .returned (.bool (decide (3 ≤ k) && decide (t ≤ now + 20))) ∧ Here w [UsersTh K p [failTo S name now k]] w') := fun k t p w1 ht h => by
    have := h.userLocked 0 name t rfl zn ht
    rw [one_locked] at this
    exact this
  have P5 : Hid (∀ p w1, Here w [UsersTh K p [failTo S name now 3]] w1 → Calls Try.prog 13 #[.pointer (some ⟨p, 0, none⟩), .string name] w1 fun e w' => e = .returned (.int .i64 0) ∧ Here w [UsersTh K p [failTo S name now 3]] w') := fun p w1 h => by
    have := h.userFails 0 name rfl zn
    rw [one_fails] at this
    exact this
  by_cases hok : userOkU name S = true
  · have P1 : Hid (∀ w1, Here w [] w1 → Calls Try.prog 8 #[.slice (some ⟨w1.heap.size, 0, none⟩) 1 1] (w1.alloc (.cells #[.string name, .string S] 29)) fun e w' => ∃ p, e = .returned (.tuple #[.pointer (some ⟨p, 0, none⟩), .int .i64 0]) ∧ Here w [UsersTh K p [failTo S name now 0]] w') := fun w1 h => Here.oneUser K h name S 1 zn hsm hok
    clear hok
    go_enter Try.func3, Try.ntmps3
    go_wp2_with fail
    with_reducible refine (PA.out _).mono ?_
    rintro e w1 ⟨rfl, b1⟩
    clear PA
    go_wp2_with fail
    with_reducible refine (F1.out _).mono ?_
    rintro e w' ⟨rfl, rfl⟩
    go_wp2_with fail
    with_reducible refine (P1.out _ (Here.start' b1)).mono ?_
    rintro e w2 ⟨p, rfl, h2⟩
    clear P1 F1 b1
    have H2 : Hid (Here w [UsersTh K p [failTo S name now 0]] w2) := h2
    clear h2
    go_wp2_with fail
    go_loopw [11] (fun i wr => ∃ k : Nat, k ≤ N ∧ i = .int .i64 k ∧ Here w [UsersTh K p [failTo S name now k]] wr) (fun i _ => N - (intOf i).toNat)
    case atStart => exact ⟨0, Nat.zero_le _, rfl, H2.out⟩
    case round =>
      clear H2
      obtain ⟨k, hkn, rfl, hh⟩ := hrel
      by_cases hlt : k < N
      · have dlt : decide ((k : Int) < (N : Int)) = true := decide_eq_true (by omega)
        have hF := P2.out k _ _ hh
        rw [decide_eq_false (show ¬ (k + 1) % 3 = 0 by omega)] at hF
        clear hh
        go_wp2_with fail
        with_reducible refine hF.mono ?_
        rintro e w3 ⟨rfl, h3⟩
        go_wp2
        go_roundw
        case rel => exact ⟨k + 1, by omega, by go_num, h3⟩
        case measure => simp [intOf]; omega
      · obtain rfl : k = N := by omega
        have dlt : decide ((k : Int) < (k : Int)) = false := by simp
        have e3 : IntKind.i64.wrap (3 - (k : Int)) = ((3 - k : Nat) : Int) := by rw [IntKind.wrap_i64]; omega
        cases good with
        | true =>
          have hG := P3.out k _ _ (by omega) hh
          clear hh
          go_wp2_with fail
          with_reducible refine hG.mono ?_
          rintro e w4 ⟨rfl, h4⟩
          have H4 : Hid (Here w [UsersTh K p [failTo S name now (0 + 0)]] w4) := h4
          clear h4 hG
          obtain ⟨M, hMM⟩ : ∃ M : Nat, M = 3 := ⟨_, rfl⟩
          obtain ⟨c, hc⟩ : ∃ c : Nat, c = 0 := ⟨_, rfl⟩
          have hM : c + M = 3 := by omega
          have i0 : (1 : Int) ≤ 3 := by decide
          go_wp2_with fail
          go_loopw [13] (fun i wr => ∃ j : Nat, j ≤ M ∧ i = .int .i64 ((j + 1 : Nat) : Int) ∧ Here w [UsersTh K p [failTo S name now (c + j)]] wr) (fun i _ => M + 1 - (intOf i).toNat)
          case atStart => exact ⟨0, Nat.zero_le _, rfl, (by rw [hc]; exact H4.out)⟩
          case round =>
            obtain ⟨j, hj, rfl, hh⟩ := hrel
            by_cases hlt : j < M
            · have dle : decide (((j + 1 : Nat) : Int) ≤ 3) = true := decide_eq_true (by omega)
              have hL := P4.out (c + j) now _ _ iw hh
              rw [decide_eq_false (show ¬ 3 ≤ c + j by omega), Bool.false_and] at hL
              by_cases hl : j + 1 = M
              · have de : (((j + 1 : Nat) : Int) == 3) = true := beq_iff_eq.2 (by omega)
                go_wp2_with fail
                with_reducible refine hL.mono ?_
                rintro e w5 ⟨rfl, h5⟩
                have hF := P2.out (c + j) _ _ h5
                rw [decide_eq_true (show (c + j + 1) % 3 = 0 by omega)] at hF
                clear hL hh
                go_wp2_with fail
                with_reducible refine hF.mono ?_
                rintro e w6 ⟨rfl, h6⟩
                clear hF
                go_wp2
                go_roundw
                case rel => exact ⟨j + 1, by omega, by go_num, h6⟩
                case measure => simp [intOf]; omega
              · have de : (((j + 1 : Nat) : Int) == 3) = false := beq_eq_false_iff_ne.2 (by omega)
                go_wp2_with fail
                with_reducible refine hL.mono ?_
                rintro e w5 ⟨rfl, h5⟩
                have hF := P2.out (c + j) _ _ h5
                rw [decide_eq_false (show ¬ (c + j + 1) % 3 = 0 by omega)] at hF
                clear hL hh
                go_wp2_with fail
                with_reducible refine hF.mono ?_
                rintro e w6 ⟨rfl, h6⟩
                clear hF
                go_wp2
                go_roundw
                case rel => exact ⟨j + 1, by omega, by go_num, h6⟩
                case measure => simp [intOf]; omega
            · obtain rfl : j = M := by omega
              have dle : decide (((j + 1 : Nat) : Int) ≤ 3) = false := decide_eq_false (by omega)
              rw [hM] at hh
              have t0 : decide (now ≤ now + 20) = true := decide_eq_true (by omega)
              have t1 : decide (now + 20 ≤ now + 20) = true := decide_eq_true (by omega)
              have t2 : decide (now + 20 + 1 ≤ now + 20) = false := decide_eq_false (by omega)
              have A1 := P4.out 3 now _ _ iw hh
              rw [t0] at A1
              have A2 : Hid _ := fun w1 h => P4.out 3 (now + 20) p w1 (by unfold I64U; omega) h
              rw [t1] at A2
              have A3 : Hid _ := fun w1 h => P4.out 3 (now + 20 + 1) p w1 (by unfold I64U; omega) h
              rw [t2] at A3
              clear t0 t1 t2 P4 hh
              go_wp2_with fail
              with_reducible refine A1.mono ?_
              rintro e w5 ⟨rfl, h5⟩
              clear A1
              go_wp2_with fail
              with_reducible refine (A2.out _ h5).mono ?_
              rintro e w6 ⟨rfl, h6⟩
              clear A2 h5
              go_wp2_with fail
              with_reducible refine (A3.out _ h6).mono ?_
              rintro e w7 ⟨rfl, h7⟩
              clear A3 h6
              go_wp2_with fail
              with_reducible refine (P5.out _ _ h7).mono ?_
              rintro e w8 ⟨rfl, h8⟩
              go_wp2
              go_ret
              exact ⟨rfl, h8.bel⟩
        | false =>
          have H4 : Hid (Here w [UsersTh K p [failTo S name now (k + 0)]] wr) := hh
          clear hh
          obtain ⟨M, hMM⟩ : ∃ M : Nat, 3 - k = M := ⟨_, rfl⟩
          have hM : k + M = 3 := by omega
          rw [hMM] at e3
          have i0 : (1 : Int) ≤ 3 := by decide
          go_wp2_with fail
          go_loopw [13] (fun i wr => ∃ j : Nat, j ≤ M ∧ i = .int .i64 ((j + 1 : Nat) : Int) ∧ Here w [UsersTh K p [failTo S name now (k + j)]] wr) (fun i _ => M + 1 - (intOf i).toNat)
          case atStart => exact ⟨0, Nat.zero_le _, rfl, H4.out⟩
          case round =>
            obtain ⟨j, hj, rfl, hh⟩ := hrel
            by_cases hlt : j < M
            · have dle : decide (((j + 1 : Nat) : Int) ≤ (M : Int)) = true := decide_eq_true (by omega)
              have hL := P4.out (k + j) now _ _ iw hh
              rw [decide_eq_false (show ¬ 3 ≤ k + j by omega), Bool.false_and] at hL
              by_cases hl : j + 1 = M
              · have de : (((j + 1 : Nat) : Int) == (M : Int)) = true := beq_iff_eq.2 (by omega)
                go_wp2_with fail
                with_reducible refine hL.mono ?_
                rintro e w5 ⟨rfl, h5⟩
                have hF := P2.out (k + j) _ _ h5
                rw [decide_eq_true (show (k + j + 1) % 3 = 0 by omega)] at hF
                clear hL hh
                go_wp2_with fail
                with_reducible refine hF.mono ?_
                rintro e w6 ⟨rfl, h6⟩
                clear hF
                go_wp2
                go_roundw
                case rel => exact ⟨j + 1, by omega, by go_num, h6⟩
                case measure => simp [intOf]; omega
              · have de : (((j + 1 : Nat) : Int) == (M : Int)) = false := beq_eq_false_iff_ne.2 (by omega)
                go_wp2_with fail
                with_reducible refine hL.mono ?_
                rintro e w5 ⟨rfl, h5⟩
                have hF := P2.out (k + j) _ _ h5
                rw [decide_eq_false (show ¬ (k + j + 1) % 3 = 0 by omega)] at hF
                clear hL hh
                go_wp2_with fail
                with_reducible refine hF.mono ?_
                rintro e w6 ⟨rfl, h6⟩
                clear hF
                go_wp2
                go_roundw
                case rel => exact ⟨j + 1, by omega, by go_num, h6⟩
                case measure => simp [intOf]; omega
            · obtain rfl : j = M := by omega
              have dle : decide (((j + 1 : Nat) : Int) ≤ (j : Int)) = false := decide_eq_false (by omega)
              rw [hM] at hh
              have t0 : decide (now ≤ now + 20) = true := decide_eq_true (by omega)
              have t1 : decide (now + 20 ≤ now + 20) = true := decide_eq_true (by omega)
              have t2 : decide (now + 20 + 1 ≤ now + 20) = false := decide_eq_false (by omega)
              have A1 := P4.out 3 now _ _ iw hh
              rw [t0] at A1
              have A2 : Hid _ := fun w1 h => P4.out 3 (now + 20) p w1 (by unfold I64U; omega) h
              rw [t1] at A2
              have A3 : Hid _ := fun w1 h => P4.out 3 (now + 20 + 1) p w1 (by unfold I64U; omega) h
              rw [t2] at A3
              clear t0 t1 t2 P4 hh
              go_wp2_with fail
              with_reducible refine A1.mono ?_
              rintro e w5 ⟨rfl, h5⟩
              clear A1
              go_wp2_with fail
              with_reducible refine (A2.out _ h5).mono ?_
              rintro e w6 ⟨rfl, h6⟩
              clear A2 h5
              go_wp2_with fail
              with_reducible refine (A3.out _ h6).mono ?_
              rintro e w7 ⟨rfl, h7⟩
              clear A3 h6
              go_wp2_with fail
              with_reducible refine (P5.out _ _ h7).mono ?_
              rintro e w8 ⟨rfl, h8⟩
              go_wp2
              go_ret
              exact ⟨rfl, h8.bel⟩
  · have hno : userOkU name S = false := by simpa using hok
    have P1 : Hid (∀ w1, Here w [] w1 → Calls Try.prog 8 #[.slice (some ⟨w1.heap.size, 0, none⟩) 1 1] (w1.alloc (.cells #[.string name, .string S] 29)) fun e w' => e = .returned (.tuple #[.pointer none, .int .i64 1]) ∧ Here w [] w') := fun w1 h => Here.newUsersNo K (h.alloc _) _ 1 1 (fun _ => (name, S)) (pairs_new w1 name S) (by decide) (fun _ _ => ⟨zn, hsm⟩) ((users_one name S).trans hno)
    clear hok hno P2 P3 P4 P5
    go_enter Try.func3, Try.ntmps3
    go_wp2_with fail
    with_reducible refine (PA.out _).mono ?_
    rintro e w1 ⟨rfl, b1⟩
    clear PA
    go_wp2_with fail
    with_reducible refine (F1.out _).mono ?_
    rintro e w' ⟨rfl, rfl⟩
    go_wp2_with fail
    with_reducible refine (P1.out _ (Here.start' b1)).mono ?_
    rintro e w2 ⟨rfl, h2⟩
    clear P1 F1 b1
    go_wp2
    go_ret
    exact ⟨rfl, h2.bel⟩

end Go.Proofs.Ytjemklgfenciaaa
