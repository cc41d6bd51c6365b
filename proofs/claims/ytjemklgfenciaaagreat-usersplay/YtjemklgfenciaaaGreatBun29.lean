/-
  Parts of this proof, one behind the other: Usr17, Usr18.
-/
import Derived.Test.YtjemklgfenciaaaGreatBun27
import Derived.Test.YtjemklgfenciaaaGreatBun24

/-
  The law on every play: longer lists are let by.
-/
namespace Go.Proofs.YtjemklgfenciaaaGreat
open Go.RowKit
set_option linter.unusedVariables false
set_option maxRecDepth 100000
set_option linter.unusedSimpArgs false

set_option maxHeartbeats 1000000 in
theorem usersPlay_long (K : UsersKeeps) (o0 : Option Addr) (n0 c0 : Nat) (raw : Bool) (o2 : Option Addr) (n2 c2 : Nat) (ask : Int) (w : World) (hlong : 40 < n0 ∨ 100 < n2) :
    Calls Tryz.prog 3 #[.slice o0 n0 c0, .bool raw, .slice o2 n2 c2, .int .i64 ask] w fun e w' => e = .returned (.bool true) ∧ Below w.heap.size w w' := by
  have PA : Hid _ := alive14_of K
  by_cases c1 : 40 < n0
  · have d1 : decide ((40 : Int) < (n0 : Int)) = true := decide_eq_true (by omega)
    clear hlong
    go_enter Tryz.func3, Tryz.ntmps3
    go_wp2_with fail
    with_reducible refine (PA.out _).mono ?_
    rintro e w1 ⟨rfl, b⟩
    go_wp2
    go_ret
    exact ⟨rfl, b⟩
  · have d1 : decide ((40 : Int) < (n0 : Int)) = false := decide_eq_false (by omega)
    have d2 : decide ((100 : Int) < (n2 : Int)) = true := decide_eq_true (by omega)
    clear hlong c1
    go_enter Tryz.func3, Tryz.ntmps3
    go_wp2_with fail
    with_reducible refine (PA.out _).mono ?_
    rintro e w1 ⟨rfl, b⟩
    go_wp2
    go_ret
    exact ⟨rfl, b⟩

end Go.Proofs.YtjemklgfenciaaaGreat

/-
  The law on every play, at users that may not be.
-/
namespace Go.Proofs.YtjemklgfenciaaaGreat
open Go.RowKit
set_option linter.unusedVariables false
set_option maxRecDepth 100000
set_option linter.unusedSimpArgs false

set_option maxHeartbeats 2000000 in
theorem usersPlay_noRaw (K : UsersKeeps) (oa : Option Addr) (n c : Nat) (X : Nat → NS) (o2 : Option Addr) (n2 c2 : Nat) (ask : Int) (w : World) (hx : PairsAt w oa n X) (hz : ∀ i, i < n → (X i).1.size ≤ maxLen ∧ (X i).2.size ≤ maxLen) (hn : n ≤ 40) (hn2 : n2 ≤ 100) (hok : usersOk (listU X n) = false) :
    Calls Tryz.prog 3 #[.slice oa n c, .bool true, .slice o2 n2 c2, .int .i64 ask] w fun e w' => e = .returned (.bool true) ∧ Below w.heap.size w w' := by
  have PA : Hid _ := alive14_of K
  have HX : Hid (PairsAt w oa n X) := hx
  have HZ : Hid _ := hz
  have HOK : Hid (usersOk (listU X n) = false) := hok
  have PN : Hid (∀ w1, Below w.heap.size w w1 → Calls Tryz.prog 6 #[.slice oa n c] w1 fun e w' => e = .returned (.tuple #[.pointer none, .int .i64 1]) ∧ Below w.heap.size w w') := fun w1 hb => by
    refine (K.newNo w1 oa n c X (HX.out.later hb) (by unfold maxLen; omega) HZ.out HOK.out).mono ?_
    rintro e w' ⟨rfl, hbel⟩
    exact ⟨rfl, hb.trans (hbel.mono hb.size)⟩
  have PU : Hid (∀ w1, Below w.heap.size w w1 → Calls Tryz.prog 9 #[.slice oa n c] w1 fun e w' => e = .returned (.bool false) ∧ Below w.heap.size w w') := fun w1 hb => by
    refine (refU_users w1 oa n c X (HX.out.later hb) (by omega) HZ.out).mono ?_
    rintro e w' ⟨rfl, hbel⟩
    rw [HOK.out]
    exact ⟨rfl, hb.trans (hbel.mono hb.size)⟩
  have d1 : decide ((40 : Int) < (n : Int)) = false := decide_eq_false (by omega)
  have d2 : decide ((100 : Int) < (n2 : Int)) = false := decide_eq_false (by omega)
  clear hok hx hz
  go_enter Tryz.func3, Tryz.ntmps3
  go_wp2_with fail
  with_reducible refine (PA.out _).mono ?_
  rintro e w1 ⟨rfl, b⟩
  go_wp2_with fail
  with_reducible refine (PN.out _ b).mono ?_
  rintro e w2 ⟨rfl, b2⟩
  clear b
  go_wp2_with fail
  go_loopw [11] (fun i wr => ∃ k : Nat, k ≤ n ∧ i = .int .i64 k ∧ Below w.heap.size w wr) (fun i _ => n - (intOf i).toNat)
  case atStart => exact ⟨0, Nat.zero_le _, rfl, b2⟩
  case round =>
    obtain ⟨k, hk, rfl, hb⟩ := hrel
    clear b2
    by_cases hlt : k < n
    · have dlt : decide ((k : Int) < (n : Int)) = true := decide_eq_true (by omega)
      have i0 : (0 : Int) ≤ (k : Int) := by omega
      have i1 : (k : Int) < (n : Int) := by omega
      obtain ⟨bb, oo, rfl, c1, c2⟩ := (HX.out.later hb) k hlt
      obtain ⟨z1, z2⟩ := HZ.out k hlt
      have PR : Hid _ := fun w1 => K.right w1 (X k).1 (X k).2 z1 z2
      have PF : Hid _ := fun w1 => refU_user (X k).1 (X k).2 w1 z1 z2
      clear z1 z2
      generalize userOkU (X k).1 (X k).2 = q at *
      generalize (X k).1 = A at *
      generalize (X k).2 = B at *
      generalize hoo : oo + k * 2 = o1 at *
      have bw : Below wr.heap.size wr wr.drew := (Below.refl _ _).drew
      go_wp2_with fail
      go_region_held3 (fun w' => w'.cell? ⟨bb, o1, none⟩ = some (.string A) ∧ w'.cell? ⟨bb, o1 + 1, none⟩ = some (.string B)) (exact ⟨cell_belowB bw c1, cell_belowB bw c2⟩) (first | (go_at_call 7; (with_reducible refine (PR.out _).mono ?_); rintro e w5 ⟨rfl, b5⟩; replace bw := bel_chain8 bw b5; clear b5) | (go_at_call 8; (with_reducible refine (PF.out _).mono ?_); rintro e w5 ⟨rfl, b5⟩; replace bw := bel_chain8 bw b5; clear b5))
      all_goals
        have hb1 := hb.trans (bw.mono hb.size)
        clear bw
        go_wp2
        go_roundw
        case rel => exact ⟨k + 1, by omega, by go_num, hb1⟩
        case measure => simp [intOf]; omega
    · have dlt : decide ((k : Int) < (n : Int)) = false := decide_eq_false (by omega)
      go_wp2_with fail
      with_reducible refine (PU.out _ hb).mono ?_
      rintro e w4 ⟨rfl, b4⟩
      go_wp2
      go_ret
      exact ⟨rfl, b4⟩

theorem tidyU_wide {X : Nat → NS} {n : Nat} (hz : ∀ i, i < n → (X i).1.size ≤ maxLen ∧ (X i).2.size ≤ maxLen) (i : Nat) (h : i < n) : ((tidyU X n).getD i nsNone).1.size ≤ maxLen ∧ ((tidyU X n).getD i nsNone).2.size ≤ maxLen := by
  have e : (tidyU X n).getD i nsNone = ((X i).1, fillS (X i).2 32) := by
    unfold tidyU
    rw [List.getD_eq_getElem?_getD, List.getElem?_map, List.getElem?_range h]
    rfl
  rw [e]
  exact ⟨(hz i h).1, by show (fillS (X i).2 32).size ≤ maxLen; rw [fillS_size]; unfold maxLen; omega⟩
/-- Tidy's list, among what was there. -/
theorem tidy_pairs (w : World) (oa : Option Addr) (n c : Nat) (X : Nat → NS) (hx : PairsAt w oa n X) (hn : n ≤ 1000) (hz : ∀ i, i < n → (X i).1.size ≤ maxLen ∧ (X i).2.size ≤ maxLen) :
    Calls Tryz.prog 5 #[.slice oa n c] w fun e w' => ∃ a d, e = .returned (.slice a n d) ∧ PairsAt w' a n (fun i => (tidyU X n).getD i nsNone) ∧ (a = none → d = 0 ∧ n = 0) ∧ Below w.heap.size w w' := by
  refine (law14_tidy w w [] (Here.start w) oa n c X hx hn hz).mono ?_
  rintro e w' ⟨a, d, rfl, hH, hb⟩
  have ho := hH.pairs 0 rfl
  refine ⟨a, d, rfl, (OwnP.pairs ho).2, fun h => ?_, hb⟩
  subst h
  rcases ho.2 with ⟨e, e2⟩ | ⟨g, cap, cur, e, _⟩
  · injection e with _ e3 e4
    exact ⟨e4, e3⟩
  · cases e

set_option maxHeartbeats 2000000 in
theorem usersPlay_noTidy (K : UsersKeeps) (oa : Option Addr) (n c : Nat) (X : Nat → NS) (o2 : Option Addr) (n2 c2 : Nat) (ask : Int) (w : World) (hx : PairsAt w oa n X) (hz : ∀ i, i < n → (X i).1.size ≤ maxLen ∧ (X i).2.size ≤ maxLen) (hn : n ≤ 40) (hn2 : n2 ≤ 100) (hok : usersOk (tidyU X n) = false) :
    Calls Tryz.prog 3 #[.slice oa n c, .bool false, .slice o2 n2 c2, .int .i64 ask] w fun e w' => e = .returned (.bool true) ∧ Below w.heap.size w w' := by
  have PA : Hid _ := alive14_of K
  have HX : Hid (PairsAt w oa n X) := hx
  have HZ : Hid _ := hz
  have PT : Hid (∀ w1, Below w.heap.size w w1 → Calls Tryz.prog 5 #[.slice oa n c] w1 fun e w' => ∃ a d, e = .returned (.slice a n d) ∧ PairsAt w' a n (fun i => (tidyU X n).getD i nsNone) ∧ (a = none → d = 0 ∧ n = 0) ∧ Below w1.heap.size w1 w') := fun w1 hb => tidy_pairs w1 oa n c X (HX.out.later hb) (by omega) HZ.out
  have HY : Hid (∀ i, i < n → ((tidyU X n).getD i nsNone).1.size ≤ maxLen ∧ ((tidyU X n).getD i nsNone).2.size ≤ maxLen) := tidyU_wide hz
  have HOK : Hid (usersOk (listU (fun i => (tidyU X n).getD i nsNone) n) = false) := by
    have e := listU_getD (tidyU X n)
    rw [tidyU_len] at e
    show usersOk _ = false
    rw [e]; exact hok
  have d1 : decide ((40 : Int) < (n : Int)) = false := decide_eq_false (by omega)
  have d2 : decide ((100 : Int) < (n2 : Int)) = false := decide_eq_false (by omega)
  clear hok hx hz
  go_enter Tryz.func3, Tryz.ntmps3
  go_wp2_with fail
  with_reducible refine (PA.out _).mono ?_
  rintro e w1 ⟨rfl, b⟩
  go_wp2_with fail
  with_reducible refine (PT.out _ b).mono ?_
  rintro e w0 ⟨a, d, rfl, hx0, _, b0⟩
  have bb0 : Below w.heap.size w w0 := bel_chain8 b b0
  clear PT
  obtain ⟨Y, hY⟩ : ∃ Y : Nat → NS, (fun i => (tidyU X n).getD i nsNone) = Y := ⟨_, rfl⟩
  rw [hY] at hx0 HOK
  have HX0 : Hid (PairsAt w0 a n Y) := hx0
  replace HY : Hid (∀ i, i < n → (Y i).1.size ≤ maxLen ∧ (Y i).2.size ≤ maxLen) := by rw [← hY]; exact HY.out
  clear hY
  have PN : Hid (∀ w1, Below w0.heap.size w0 w1 → Calls Tryz.prog 6 #[.slice a n d] w1 fun e w' => e = .returned (.tuple #[.pointer none, .int .i64 1]) ∧ Below w0.heap.size w0 w') := fun w1 hb => by
    refine (K.newNo w1 a n d Y (HX0.out.later hb) (by unfold maxLen; omega) HY.out HOK.out).mono ?_
    rintro e w' ⟨rfl, hbel⟩
    exact ⟨rfl, hb.trans (hbel.mono hb.size)⟩
  have PU : Hid (∀ w1, Below w0.heap.size w0 w1 → Calls Tryz.prog 9 #[.slice a n d] w1 fun e w' => e = .returned (.bool false) ∧ Below w0.heap.size w0 w') := fun w1 hb => by
    refine (refU_users w1 a n d Y (HX0.out.later hb) (by omega) HY.out).mono ?_
    rintro e w' ⟨rfl, hbel⟩
    rw [HOK.out]
    exact ⟨rfl, hb.trans (hbel.mono hb.size)⟩
  clear b b0 hx0 PA HX HZ
  have BB : Hid (∀ w', Below w0.heap.size w0 w' → Below w.heap.size w w') := fun w' h => bel_chain8 bb0 h
  clear bb0
  go_wp2_with fail
  with_reducible refine (PN.out _ (Below.refl _ _)).mono ?_
  rintro e w2 ⟨rfl, b2⟩
  go_wp2_with fail
  go_loopw [11] (fun i wr => ∃ k : Nat, k ≤ n ∧ i = .int .i64 k ∧ Below w0.heap.size w0 wr) (fun i _ => n - (intOf i).toNat)
  case atStart => exact ⟨0, Nat.zero_le _, rfl, b2⟩
  case round =>
    obtain ⟨k, hk, rfl, hb⟩ := hrel
    clear b2
    by_cases hlt : k < n
    · have dlt : decide ((k : Int) < (n : Int)) = true := decide_eq_true (by omega)
      have i0 : (0 : Int) ≤ (k : Int) := by omega
      have i1 : (k : Int) < (n : Int) := by omega
      obtain ⟨bb, oo, rfl, c1, c2⟩ := (HX0.out.later hb) k hlt
      obtain ⟨z1, z2⟩ := HY.out k hlt
      have PR : Hid _ := fun w1 => K.right w1 (Y k).1 (Y k).2 z1 z2
      have PF : Hid _ := fun w1 => refU_user (Y k).1 (Y k).2 w1 z1 z2
      clear z1 z2
      generalize userOkU (Y k).1 (Y k).2 = q at *
      generalize (Y k).1 = A at *
      generalize (Y k).2 = B at *
      generalize hoo : oo + k * 2 = o1 at *
      have bw : Below wr.heap.size wr wr.drew := (Below.refl _ _).drew
      go_wp2_with fail
      go_region_held3 (fun w' => w'.cell? ⟨bb, o1, none⟩ = some (.string A) ∧ w'.cell? ⟨bb, o1 + 1, none⟩ = some (.string B)) (exact ⟨cell_belowB bw c1, cell_belowB bw c2⟩) (first | (go_at_call 7; (with_reducible refine (PR.out _).mono ?_); rintro e w5 ⟨rfl, b5⟩; replace bw := bel_chain8 bw b5; clear b5) | (go_at_call 8; (with_reducible refine (PF.out _).mono ?_); rintro e w5 ⟨rfl, b5⟩; replace bw := bel_chain8 bw b5; clear b5))
      all_goals
        have hb1 := hb.trans (bw.mono hb.size)
        clear bw
        go_wp2
        go_roundw
        case rel => exact ⟨k + 1, by omega, by go_num, hb1⟩
        case measure => simp [intOf]; omega
    · have dlt : decide ((k : Int) < (n : Int)) = false := decide_eq_false (by omega)
      go_wp2_with fail
      with_reducible refine (PU.out _ hb).mono ?_
      rintro e w4 ⟨rfl, b4⟩
      go_wp2
      go_ret
      exact ⟨rfl, BB.out _ b4⟩

end Go.Proofs.YtjemklgfenciaaaGreat
