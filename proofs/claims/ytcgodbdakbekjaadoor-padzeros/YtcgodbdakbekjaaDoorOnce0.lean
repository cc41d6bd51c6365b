/-
  sync.Once, one goroutine: the contracts of its parts, and of Do, whatever function it is handed.
-/
import Derived.Test.YtcgodbdakbekjaaDoorProg
import Derived.Test.YtcgodbdakbekjaaDoorMem0
import Derived.Tactics
import Derived.Tactics2
import Derived.Defers
import Derived.Laws.Pointers
import Derived.Laws.LoneSync
import Derived.Conc.MuLone
import Derived.RegionTactic
import Derived.RegionCalls
import Derived.ChangeAlike
import Derived.Laws.NewBlocks
namespace Go.Proofs.YtcgodbdakbekjaaDoor
open Go.RowKit
set_option linter.unusedVariables false
set_option maxRecDepth 100000

/-- An atomic.Bool's Store(true), entered as a deferred call: the cell holds 1. -/
theorem store_deferred (a : Addr) (x : Value) (u : FrameMode) (w : World) (hc : w.cell? a = some x) (hz : w.frozen? a = false) :
    CallsD Tryd.prog 55 #[.pointer (some a), .bool true] u w fun e u' w' => u' = u ∧ (e = .returned (.tuple #[]) ∧ w' = w.drew.setCell a (.int .u32 1)) := by
  have hc' : w.drew.cell? a = some x := by go_simp
  have hz' : w.drew.frozen? a = false := by go_simp
  have hst := run_call_store (P := Tryd.prog) Tryd.func61 (by kernel_rfl) (by kernel_rfl) (by kernel_rfl) (by kernel_rfl) (k := .u32) (y := 1) hc' hz'
  go_enter_d Tryd.func55, Tryd.ntmps55
  go_wp2
  go_region_calls
  all_goals (go_end0; exact ⟨rfl, rfl⟩)

/-- The numbers under which the program holds sync.Mutex's functions and types, for the library's contracts of Lock and Unlock. -/
def muLink : Go.Conc.Locks.MuLink := { lock := 53, unlock := 54, ilock := 59, iunlock := 60, lockSlow := 71, unlockSlow := 74, disable := 67, enable := 69, acquire := 70, relMerge := 72, cas32 := 68, add32 := 73, tMutex := 46, tIMutex := 44, tPMutex := 98, tPIMutex := 109, tPI32 := 111, tUP := 90, tNoCopy := 38, tU32 := 40 }

theorem muLib : Go.Conc.Locks.MuLib Tryd.prog muLink :=
  ⟨Tryd.func53, Tryd.func54, Tryd.func59, Tryd.func60, Tryd.func67, Tryd.func69, Tryd.func70, Tryd.func72, Tryd.func68, Tryd.func73, Tryd.underlying44, Tryd.runUnderlying44, Tryd.sizeOf44, Tryd.isAgg44, Tryd.zeroValue44, Tryd.underlying46, Tryd.runUnderlying46, Tryd.sizeOf46, Tryd.isAgg46, Tryd.zeroValue46, Tryd.underlying98, Tryd.runUnderlying98, Tryd.sizeOf98, Tryd.isAgg98, Tryd.zeroValue98, Tryd.underlying109, Tryd.runUnderlying109, Tryd.sizeOf109, Tryd.isAgg109, Tryd.zeroValue109, Tryd.underlying111, Tryd.runUnderlying111, Tryd.sizeOf111, Tryd.isAgg111, Tryd.zeroValue111, Tryd.underlying90, Tryd.runUnderlying90, Tryd.sizeOf90, Tryd.isAgg90, Tryd.zeroValue90, Tryd.underlying38, Tryd.runUnderlying38, Tryd.sizeOf38, Tryd.isAgg38, Tryd.zeroValue38, Tryd.underlying21, Tryd.runUnderlying21, Tryd.sizeOf21, Tryd.isAgg21, Tryd.zeroValue21, (by kernel_rfl)⟩

/-- A Mutex's Unlock, entered as a deferred call, the lock held and nobody waiting. -/
theorem unlock_deferred (a : Addr) (u : FrameMode) (w : World) (hc : w.cell? a = some (.int .i32 1)) (hz : w.frozen? a = false) :
    CallsD Tryd.prog 54 #[.pointer (some a)] u w fun e u' w' => u' = u ∧ (e = .returned (.tuple #[]) ∧ w' = w.setCell a (.int .i32 0)) :=
  Go.MuLone.unlock_deferred muLib a u w hc hz

/-- A Mutex's Lock, the lock free. -/
theorem lock_free (a : Addr) (w : World) (hc : w.cell? a = some (.int .i32 0)) (hz : w.frozen? a = false) :
    Calls Tryd.prog 53 #[.pointer (some a)] w fun e w' => e = .returned (.tuple #[]) ∧ w' = w.setCell a (.int .i32 1) :=
  Go.MuLone.lock_free muLib a w hc hz

end Go.Proofs.YtcgodbdakbekjaaDoor
