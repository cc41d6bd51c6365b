/-
  Package window: next, place, isNear, May, move, Take, Ahead.
-/
import Derived.Test.YtmpmhepaonifpaaWinK0
import Derived.Test.YtmpmhepaonifpaaWin1
import Derived.Laws.LoneSync
import Derived.BigQuiet
import Derived.RegionTactic
namespace Go.Proofs.Ytmpmhepaonifpaa
open Go.RowKit
set_option linter.unusedVariables false
set_option maxRecDepth 100000
set_option linter.unusedSimpArgs false

theorem i64_loadW (a : Addr) (x : Int) (w : World) (hc : w.cell? a = some (.int .i64 x)) :
    Calls Try.prog 20 #[.pointer (some a)] w fun e w' => e = .returned (.int .i64 x) ∧ w = w' := by
  have hl := run_call_load (P := Try.prog) Try.func50 (by kernel_rfl) (by kernel_rfl) (by kernel_rfl) .i64 (by kernel_rfl) hc
  go_enter Try.func20, Try.ntmps20
  go_wp2
  go_ret
  exact ⟨rfl, rfl⟩
theorem i64_storeW (a : Addr) (x y : Int) (w : World) (hc : w.cell? a = some (.int .i64 x)) (hz : w.frozen? a = false) :
    Calls Try.prog 49 #[.pointer (some a), .int .i64 y] w fun e w' => e = .returned (.tuple #[]) ∧ w' = w.setCell a (.int .i64 y) := by
  have hl := run_call_store (P := Try.prog) Try.func64 (by kernel_rfl) (by kernel_rfl) (by kernel_rfl) (by kernel_rfl) (k := .i64) (y := y) hc hz
  go_enter Try.func49, Try.ntmps49
  go_wp2
  go_end0
  exact ⟨rfl, rfl⟩

theorem bel_drewNK (w : World) (m : Nat) : Below w.heap.size w (w.drewN m) := (touch_drewNW (fun _ => False) w m).below (fun _ h => h.elim) (Nat.le_refl _)
theorem row_drewNK {w : World} {p : Nat} {t : TypeId} {l : List Value} (h : RowIs w p t l) (m : Nat) : RowIs (w.drewN m) p t l := h.below (bel_drewNK w m) h.lt

theorem win_next (w : World) (p n : Nat) (B : List Bool) (hr : RowIs w p 32 (winRow n B)) :
    Calls Try.prog 13 #[.pointer (some ⟨p, 0, none⟩)] w fun e w' => e = .returned (.int .i64 (n : Int)) ∧ w = w' := by
  have PL := i64_loadW ⟨p, 0, none⟩ n w (hr.cellAt (winRow_zero n B))
  clear hr
  go_enter Try.func13, Try.ntmps13
  go_wp2_with fail
  with_reducible refine PL.mono ?_
  rintro e w' ⟨rfl, rfl⟩
  go_wp2
  go_ret
  exact ⟨rfl, rfl⟩
theorem win_place (x : Nat) (w : World) (hx : x ≤ 2000000) : Calls Try.prog 17 #[.int .i64 (x : Int)] w fun e w' => e = .returned (.int .i64 ((x % 64 : Nat) : Int)) ∧ w' = w := by
  have e := tmod_place x
  generalize x % 64 = K at *
  go_enter Try.func17, Try.ntmps17
  go_wp2
  go_ret
  exact ⟨rfl, rfl⟩
theorem win_near (w : World) (p n : Nat) (B : List Bool) (x : Int) (hr : RowIs w p 32 (winRow n B)) (hn : n ≤ 1000000) (hx : I64W x) :
    Calls Try.prog 16 #[.pointer (some ⟨p, 0, none⟩), .int .i64 x] w fun e w' => e = .returned (.bool (decide ((n : Int) ≤ x ∧ x < (n : Int) + 64))) ∧ w' = w := by
  have PN := win_next w p n B hr
  clear hr
  obtain ⟨h1, h2⟩ := hx
  by_cases h : (n : Int) ≤ x
  · by_cases h3 : x < (n : Int) + 64
    · have d0 : decide ((n : Int) ≤ x ∧ x < (n : Int) + 64) = true := decide_eq_true ⟨h, h3⟩
      rw [d0]
      go_enter Try.func16, Try.ntmps16
      go_wp2_with fail
      with_reducible refine PN.mono ?_
      rintro e w' ⟨rfl, rfl⟩
      have d1 : decide ((n : Int) ≤ x) = true := decide_eq_true h
      have e2 : IntKind.i64.wrap (x - (n : Int)) = x - (n : Int) := by rw [IntKind.wrap_i64]; omega
      have d2 : decide (x - (n : Int) < 64) = true := decide_eq_true (by omega)
      go_wp2
      go_ret
      exact ⟨rfl, rfl⟩
    · have d0 : decide ((n : Int) ≤ x ∧ x < (n : Int) + 64) = false := decide_eq_false (fun hh => h3 hh.2)
      rw [d0]
      go_enter Try.func16, Try.ntmps16
      go_wp2_with fail
      with_reducible refine PN.mono ?_
      rintro e w' ⟨rfl, rfl⟩
      have d1 : decide ((n : Int) ≤ x) = true := decide_eq_true h
      have e2 : IntKind.i64.wrap (x - (n : Int)) = x - (n : Int) := by rw [IntKind.wrap_i64]; omega
      have d2 : decide (x - (n : Int) < 64) = false := decide_eq_false (by omega)
      go_wp2
      go_ret
      exact ⟨rfl, rfl⟩
  · have d0 : decide ((n : Int) ≤ x ∧ x < (n : Int) + 64) = false := decide_eq_false (fun hh => h hh.1)
    rw [d0]
    go_enter Try.func16, Try.ntmps16
    go_wp2_with fail
    with_reducible refine PN.mono ?_
    rintro e w' ⟨rfl, rfl⟩
    have d1 : decide ((n : Int) ≤ x) = false := decide_eq_false (by omega)
    go_wp2
    go_ret
    exact ⟨rfl, rfl⟩

end Go.Proofs.Ytmpmhepaonifpaa
