/-
  Package window: May, move, Take.
-/
import Derived.Test.YtmpmhepaonifpaaWinK1
namespace Go.Proofs.Ytmpmhepaonifpaa
open Go.RowKit
set_option linter.unusedVariables false
set_option maxRecDepth 100000
set_option linter.unusedSimpArgs false

set_option maxHeartbeats 1000000 in
theorem win_may (w : World) (p : Nat) (s : Wn) (B : List Bool) (x : Int) (hr : RowIs w p 32 (winRow s.n B)) (hB : Places s.n s.T B) (hn : s.n ≤ 1000000) (hx : I64W x) :
    Calls Try.prog 9 #[.pointer (some ⟨p, 0, none⟩), .int .i64 x] w fun e w' => e = .returned (.bool (s.may x)) ∧ ∃ m, w' = w.drewN m := by
  have PN : Hid _ := fun m => win_near (w.drewN m) p s.n B x (row_drewNK hr m) hn hx
  by_cases h : (s.n : Int) ≤ x ∧ x < (s.n : Int) + 64
  · obtain ⟨y, rfl⟩ : ∃ y : Nat, x = (y : Int) := ⟨x.toNat, by omega⟩
    have hb := places_tell hB y (by omega) (by omega)
    have hlt : y % 64 < 64 := Nat.mod_lt _ (by decide)
    have hc := hr.cellAt (winRow_at s.n B (y % 64) (by rw [hB.len]; exact hlt))
    have PP : Hid _ := fun m => win_place y (w.drewN m) (by omega)
    have em : s.may (y : Int) = !decide ((y : Int) ∈ s.T) := by
      unfold Wn.may
      by_cases ht : (y : Int) ∈ s.T
      · rw [decide_eq_true ht, decide_eq_false (fun hh => hh.2.2 ht)]; rfl
      · rw [decide_eq_false ht, decide_eq_true ⟨h.1, h.2, ht⟩]; rfl
    rw [em]
    rw [hb] at hc
    have d0 : decide ((s.n : Int) ≤ (y : Int) ∧ (y : Int) < (s.n : Int) + 64) = true := decide_eq_true h
    rw [d0] at PN
    clear d0 hb em hr hB hx h
    generalize decide ((y : Int) ∈ s.T) = b at *
    generalize y % 64 = K at *
    have k0 : (0 : Int) ≤ (K : Int) := by omega
    have k1 : (K : Int) < (64 : Int) := by omega
    go_enter Try.func9, Try.ntmps9
    go_wp2_with fail
    go_quiet (first | (go_at_call 16; exact Calls.quiet_of_same (PN.out _)) | (go_at_call 17; exact Calls.quiet_of_same (PP.out _)))
    go_wp2
    go_ret
    exact ⟨rfl, _, rfl⟩
  · have em : s.may x = false := by
      unfold Wn.may
      exact decide_eq_false (fun hh => h ⟨hh.1, hh.2.1⟩)
    rw [em]
    have d0 : decide ((s.n : Int) ≤ x ∧ x < (s.n : Int) + 64) = false := decide_eq_false h
    rw [d0] at PN
    clear d0 em hr hB hx h
    go_enter Try.func9, Try.ntmps9
    go_wp2_with fail
    go_quiet (first | (go_at_call 16; exact Calls.quiet_of_same (PN.out _)))
    go_wp2
    go_ret
    exact ⟨rfl, _, rfl⟩

end Go.Proofs.Ytmpmhepaonifpaa
