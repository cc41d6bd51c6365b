/-
  Package window: Ahead.
-/
import Derived.Test.YtmpmhepaonifpaaWinK2
namespace Go.Proofs.Ytmpmhepaonifpaa
open Go.RowKit
set_option linter.unusedVariables false
set_option maxRecDepth 100000
set_option linter.unusedSimpArgs false

theorem row_touchW {w w' : World} {p : Nat} {t : TypeId} {l : List Value} (h : RowIs w p t l) (ht : Touch (fun _ => False) w w') : RowIs w' p t l := by
  have hl := h.lt
  unfold RowIs at *
  rw [ht.block p hl (fun x => x)]; exact h
theorem own_drewNW {w : World} {base : Nat} {v : Value} {l : List Int} (h : OwnI w base v l) (m : Nat) : OwnI (w.drewN m) base v l := h.below (bel_drewNK w m)
theorem own_moreW {w : World} {base : Nat} {v' : Value} {l : List Int} {x : Int} (h : w.ownsRow base 3 1 v' (l.length + 1) (cellsI l ++ [.int .i64 x])) : OwnI w base v' (l ++ [x]) := by
  unfold OwnI
  rw [List.length_append, cellsI_append]
  exact h

set_option maxHeartbeats 1000000 in
theorem win_ahead (w : World) (p n : Nat) (T : List Int) (B : List Bool) (hr : RowIs w p 32 (winRow n B)) (hB : Places n T B) (hn : n ≤ 1000000) :
    Calls Try.prog 11 #[.pointer (some ⟨p, 0, none⟩)] w fun e w' => ∃ v, e = .returned v ∧ OwnI w' w.heap.size v (aheadTo n T 64) ∧ Touch (fun _ => False) w w' := by
  obtain ⟨i0, hi0, hz0, hz1, hz2⟩ := info_parts infoI
  have PN := win_next w p n B hr
  go_enter Try.func11, Try.ntmps11
  go_wp2_with fail
  with_reducible refine PN.mono ?_
  rintro e w' ⟨rfl, rfl⟩
  clear PN
  go_wp2_with fail
  go_loopw [3, 5] (fun v i wr => ∃ (k : Nat), i = .int .i64 ((n + k : Nat) : Int) ∧ k ≤ 64 ∧ OwnI wr w.heap.size v (aheadTo n T k) ∧ Touch (fun _ => False) w wr) (fun _ i _ => 64 + n - (intOf i).toNat)
  case atStart => exact ⟨0, rfl, Nat.zero_le _, ⟨rfl, Or.inl ⟨rfl, rfl⟩⟩, Touch.refl _ _⟩
  case round =>
    obtain ⟨k, rfl, hk, hown, ht⟩ := hrel
    by_cases hk2 : k < 64
    · have hrow := row_touchW hr ht
      obtain ⟨m, hm⟩ : ∃ m, n + k = m := ⟨_, rfl⟩
      have hlt : m % 64 < 64 := Nat.mod_lt _ (by decide)
      have hc := hrow.cellAt (winRow_at n B (m % 64) (by rw [hB.len]; exact hlt))
      rw [places_tell hB m (by omega) (by omega)] at hc
      have PP : Hid _ := fun w => win_place m w (by omega)
      have hle := aheadTo_len n T k
      have d1 : decide ((m : Int) < (n : Int) + 64) = true := decide_eq_true (by omega)
      by_cases hmT : (m : Int) ∈ T
      · rw [decide_eq_true hmT] at hc
        have hA : aheadTo n T (k + 1) = aheadTo n T k ++ [(m : Int)] := by
          have := aheadTo_yes (n := n) (T := T) (i := k) (by rw [hm]; exact hmT)
          rw [hm] at this
          exact this
        have HA : Hid _ := hA
        have HM : Hid (n + k = m) := hm
        have hm2 : m ≤ n + 63 := by omega
        have hm3 : n ≤ m := by omega
        rw [hm]
        clear hA hmT hrow hm
        generalize aheadTo n T k = l at *
        generalize m % 64 = K at *
        have k0 : (0 : Int) ≤ (K : Int) := by omega
        have k1 : (K : Int) < (64 : Int) := by omega
        go_wp2_with fail
        go_quiet (first | (go_at_call 17; exact Calls.quiet_of_same (PP.out _)))
        have hown1 := own_drewNW hown nq
        have ht1 := ht.trans (touch_drewNW (fun _ => False) wr nq)
        clear hc hown ht
        generalize wr.drewN nq = w1 at *
        obtain ⟨ao, cap, rfl⟩ := hown1.shape
        have hbs := ht1.size
        have HT1 : Hid _ := ht1
        go_wp2_with (first | (at_builtin; refine wpList_append_two _ rfl (.tmp 24) (.tmp 26) 22 rfl w.heap.size 3 i0 (.int .i64 0) 1 8 Try.underlying22 hi0 hz0 hz1 hz2 rfl (by decide) (.slice ao l.length cap) l.length (cellsI l) rfl (World.ownsRow.alloc hown1 _) ⟨w1.heap.size, 0, none⟩ 1 1 [.int .i64 (m : Int)] rfl rfl (cell_one_new w1 (.int .i64 (m : Int)) 3) (by intro u hu; simp at hu; rw [hu]; rfl) (by unfold maxLen; omega) (by omega) (by simp; omega) ?_))
        intro v' w3 ho3 hg3 hat3
        have hown4 := own_moreW ho3
        have ht3 : Touch (fun _ => False) w w3 := (HT1.out.alloc _).grown hg3 (fun q hq => Or.inr (World.ownsRow.lt hown1 q hq).1)
        clear ho3 hg3 hat3
        go_wp2
        go_roundw
        case rel => exact ⟨k + 1, by rw [← HM.out]; go_num, hk2, by rw [HA.out]; exact hown4, ht3⟩
        case measure => simp [intOf]; omega
      · rw [decide_eq_false hmT] at hc
        have hA : aheadTo n T (k + 1) = aheadTo n T k := aheadTo_no (by rw [hm]; exact hmT)
        have HA : Hid _ := hA
        have HM : Hid (n + k = m) := hm
        have hm2 : m ≤ n + 63 := by omega
        have hm3 : n ≤ m := by omega
        rw [hm]
        clear hA hmT hrow hm
        generalize aheadTo n T k = l at *
        generalize m % 64 = K at *
        have k0 : (0 : Int) ≤ (K : Int) := by omega
        have k1 : (K : Int) < (64 : Int) := by omega
        go_wp2_with fail
        go_quiet (first | (go_at_call 17; exact Calls.quiet_of_same (PP.out _)))
        have hown1 := own_drewNW hown nq
        have ht1 := ht.trans (touch_drewNW (fun _ => False) wr nq)
        clear hc hown ht
        generalize wr.drewN nq = w1 at *
        go_wp2
        go_roundw
        case rel => exact ⟨k + 1, by rw [← HM.out]; go_num, hk2, by rw [HA.out]; exact hown1, ht1⟩
        case measure => simp [intOf]; omega
    · obtain rfl : k = 64 := by omega
      have d1 : decide (((n + 64 : Nat) : Int) < (n : Int) + 64) = false := decide_eq_false (by omega)
      go_wp2
      go_ret
      exact ⟨_, rfl, hown, ht⟩

theorem win_mayNil (w : World) (x : Int) : Calls Try.prog 9 #[.pointer none, .int .i64 x] w fun e w' => e = .returned (.bool false) ∧ Below w.heap.size w w' := by
  go_enter Try.func9, Try.ntmps9
  go_wp2_with fail
  go_quiet (fail)
  go_wp2
  go_ret
  exact ⟨rfl, bel_drewNK _ _⟩
theorem win_takeNil (w : World) (x : Int) : Calls Try.prog 10 #[.pointer none, .int .i64 x] w fun e w' => e = .returned (.bool false) ∧ Below w.heap.size w w' := by
  have PM := win_mayNil w x
  go_enter Try.func10, Try.ntmps10
  go_wp2_with fail
  with_reducible refine PM.mono ?_
  rintro e w' ⟨rfl, b⟩
  go_wp2
  go_ret
  exact ⟨rfl, b⟩
theorem win_nextNil (w : World) : Calls Try.prog 13 #[.pointer none] w fun e w' => e = .returned (.int .i64 0) ∧ Below w.heap.size w w' := by
  go_enter Try.func13, Try.ntmps13
  go_wp2
  go_ret
  exact ⟨rfl, Below.refl _ _⟩
theorem win_aheadNil (w : World) : Calls Try.prog 11 #[.pointer none] w fun e w' => (∃ a c, e = .returned (.slice a 0 c)) ∧ Below w.heap.size w w' := by
  go_enter Try.func11, Try.ntmps11
  go_wp2
  go_ret
  exact ⟨⟨_, _, rfl⟩, Below.refl _ _⟩

end Go.Proofs.Ytmpmhepaonifpaa
