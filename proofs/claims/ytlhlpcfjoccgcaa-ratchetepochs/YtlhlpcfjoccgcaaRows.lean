/-
  No cell of these rows narrows 'for every input' (looked for: loops, veiled, ifaces, maps, wideKeys, modest, calm, conditions, laid).
  DERIVED. THE GIVEN ROWS OF THIS SEAT. 6 by the template 'for every input the law returns true; each argument reads behind the call as it read before'; 0 by the template 'total and deterministic' (their statements: YtlhlpcfjoccgcaaTotals.lean).
  GIVEN WITH THE SEED: the statements are not yours to turn. If you find one false, say at which input.
  Laid BY PROGRAM, IN A SANDBOX (cutbox-rows.mjs): the forced cells as the released guide's own fill.sh prints them over the translation dc0ed237152996ee… (all of the seat's roots in one cut). By AI agents, Wed Nov 11 2026. No macro, syntax, notation, axiom, sorry.
-/
import Derived.Test.YtlhlpcfjoccgcaaChecked
import GoSem.Claim
import GoSem.ClaimJoined
import GoSem.ClaimMapViews
import Derived.JoinedTies
import Derived.KernelRfl
namespace Go.Proofs.Ytlhlpcfjoccgcaa
/- THE CELL 'sum', in the pinned program and in every row, IS THE sha256 OF THE DUMP (.gsa) THAT YtlhlpcfjoccgcaaProg.lean LOADS. Nothing in Lean hashes anything: it is a label: what it is worth is what the hold of that sum in a sandbox is worth. -/
noncomputable def Try.pinned : Pinned := { name := "ytlhlpcfjoccgcaa", sum := "dc0ed237152996ee8aa2459c902ccb2b7b6acf7485ab712326f99bf703f22e6e", checked := Try.checked }
namespace Rows
def none {H : Type} : Left H := { results := [], args := [] }

/-- 'escutcheonlaw12.RatchetTells': WHATEVER THE INPUT: true; the input reads as it did. -/
def ratchetTellsSpec : ChangeSpec := { name := "ratchetTells", fn := fun _ => fun
  | [d1, d2, d3, d4, d5] => { results := [.lit (.bool true)], args := [d1, d2, d3, d4, d5] }
  | _ => none }
def ratchetTellsRow : OpenClaim := { program := "ytlhlpcfjoccgcaa", sum := "dc0ed237152996ee8aa2459c902ccb2b7b6acf7485ab712326f99bf703f22e6e", func := "escutcheon/escutcheonlaw12.RatchetTells", spec := "ratchetTells", inPlace := ["sync/atomic.LoadInt64", "sync/atomic.LoadUint32", "(*internal/sync.Mutex).Lock", "internal/race.Disable", "sync/atomic.CompareAndSwapInt32", "internal/race.Enable", "internal/race.Acquire", "(*internal/sync.Mutex).lockSlow", "internal/sync.runtime_canSpin", "internal/sync.runtime_doSpin", "internal/sync.throw", "internal/sync.runtime_nanotime", "internal/sync.runtime_SemacquireMutex", "sync/atomic.AddInt32", "(*internal/sync.Mutex).Unlock", "internal/race.ReleaseMerge", "(*internal/sync.Mutex).unlockSlow", "internal/sync.fatal", "internal/sync.runtime_Semrelease", "sync/atomic.StoreUint32", "internal/abi.NoEscape", "internal/bytealg.MakeNoZero", "sync/atomic.AddInt64"], unfollowed := true, recurses := true, apart := false }
def RatchetTellsSaid : Prop := ratchetTellsRow.holds Try.pinned (OpenSpec.ofChange ratchetTellsSpec)

/-- ITS FALSE NEIGHBOUR: 'it returns false'. Refute it at one input. -/
def ratchetTellsWrong : ChangeSpec := { name := "ratchetTells", fn := fun _ => fun
  | [d1, d2, d3, d4, d5] => { results := [.lit (.bool false)], args := [d1, d2, d3, d4, d5] }
  | _ => none }
def RatchetTellsWrongFalsely : Prop := ratchetTellsRow.holds Try.pinned (OpenSpec.ofChange ratchetTellsWrong)

/-- 'escutcheonlaw12.RatchetApart': WHATEVER THE INPUT: true; the input reads as it did. -/
def ratchetApartSpec : ChangeSpec := { name := "ratchetApart", fn := fun _ => fun
  | [d1, d2] => { results := [.lit (.bool true)], args := [d1, d2] }
  | _ => none }
def ratchetApartRow : OpenClaim := { program := "ytlhlpcfjoccgcaa", sum := "dc0ed237152996ee8aa2459c902ccb2b7b6acf7485ab712326f99bf703f22e6e", func := "escutcheon/escutcheonlaw12.RatchetApart", spec := "ratchetApart", inPlace := ["sync/atomic.LoadInt64", "sync/atomic.LoadUint32", "(*internal/sync.Mutex).Lock", "internal/race.Disable", "sync/atomic.CompareAndSwapInt32", "internal/race.Enable", "internal/race.Acquire", "(*internal/sync.Mutex).lockSlow", "internal/sync.runtime_canSpin", "internal/sync.runtime_doSpin", "internal/sync.throw", "internal/sync.runtime_nanotime", "internal/sync.runtime_SemacquireMutex", "sync/atomic.AddInt32", "(*internal/sync.Mutex).Unlock", "internal/race.ReleaseMerge", "(*internal/sync.Mutex).unlockSlow", "internal/sync.fatal", "internal/sync.runtime_Semrelease", "sync/atomic.StoreUint32", "internal/abi.NoEscape", "internal/bytealg.MakeNoZero", "sync/atomic.AddInt64"], unfollowed := true, recurses := true, apart := false }
def RatchetApartSaid : Prop := ratchetApartRow.holds Try.pinned (OpenSpec.ofChange ratchetApartSpec)

/-- ITS FALSE NEIGHBOUR: 'it returns false'. Refute it at one input. -/
def ratchetApartWrong : ChangeSpec := { name := "ratchetApart", fn := fun _ => fun
  | [d1, d2] => { results := [.lit (.bool false)], args := [d1, d2] }
  | _ => none }
def RatchetApartWrongFalsely : Prop := ratchetApartRow.holds Try.pinned (OpenSpec.ofChange ratchetApartWrong)

/-- 'escutcheonlaw12.RatchetSteps': WHATEVER THE INPUT: true; the input reads as it did. -/
def ratchetStepsSpec : ChangeSpec := { name := "ratchetSteps", fn := fun _ => fun
  | [d1, d2, d3] => { results := [.lit (.bool true)], args := [d1, d2, d3] }
  | _ => none }
def ratchetStepsRow : OpenClaim := { program := "ytlhlpcfjoccgcaa", sum := "dc0ed237152996ee8aa2459c902ccb2b7b6acf7485ab712326f99bf703f22e6e", func := "escutcheon/escutcheonlaw12.RatchetSteps", spec := "ratchetSteps", inPlace := ["sync/atomic.LoadInt64", "sync/atomic.LoadUint32", "(*internal/sync.Mutex).Lock", "internal/race.Disable", "sync/atomic.CompareAndSwapInt32", "internal/race.Enable", "internal/race.Acquire", "(*internal/sync.Mutex).lockSlow", "internal/sync.runtime_canSpin", "internal/sync.runtime_doSpin", "internal/sync.throw", "internal/sync.runtime_nanotime", "internal/sync.runtime_SemacquireMutex", "sync/atomic.AddInt32", "(*internal/sync.Mutex).Unlock", "internal/race.ReleaseMerge", "(*internal/sync.Mutex).unlockSlow", "internal/sync.fatal", "internal/sync.runtime_Semrelease", "sync/atomic.StoreUint32", "internal/abi.NoEscape", "internal/bytealg.MakeNoZero", "sync/atomic.AddInt64"], unfollowed := true, recurses := true, apart := false }
def RatchetStepsSaid : Prop := ratchetStepsRow.holds Try.pinned (OpenSpec.ofChange ratchetStepsSpec)

/-- ITS FALSE NEIGHBOUR: 'it returns false'. Refute it at one input. -/
def ratchetStepsWrong : ChangeSpec := { name := "ratchetSteps", fn := fun _ => fun
  | [d1, d2, d3] => { results := [.lit (.bool false)], args := [d1, d2, d3] }
  | _ => none }
def RatchetStepsWrongFalsely : Prop := ratchetStepsRow.holds Try.pinned (OpenSpec.ofChange ratchetStepsWrong)

/-- 'escutcheonlaw12.RatchetSessions': WHATEVER THE INPUT: true; the input reads as it did. -/
def ratchetSessionsSpec : ChangeSpec := { name := "ratchetSessions", fn := fun _ => fun
  | [d1, d2] => { results := [.lit (.bool true)], args := [d1, d2] }
  | _ => none }
def ratchetSessionsRow : OpenClaim := { program := "ytlhlpcfjoccgcaa", sum := "dc0ed237152996ee8aa2459c902ccb2b7b6acf7485ab712326f99bf703f22e6e", func := "escutcheon/escutcheonlaw12.RatchetSessions", spec := "ratchetSessions", inPlace := ["sync/atomic.LoadInt64", "sync/atomic.LoadUint32", "(*internal/sync.Mutex).Lock", "internal/race.Disable", "sync/atomic.CompareAndSwapInt32", "internal/race.Enable", "internal/race.Acquire", "(*internal/sync.Mutex).lockSlow", "internal/sync.runtime_canSpin", "internal/sync.runtime_doSpin", "internal/sync.throw", "internal/sync.runtime_nanotime", "internal/sync.runtime_SemacquireMutex", "sync/atomic.AddInt32", "(*internal/sync.Mutex).Unlock", "internal/race.ReleaseMerge", "(*internal/sync.Mutex).unlockSlow", "internal/sync.fatal", "internal/sync.runtime_Semrelease", "sync/atomic.StoreUint32", "internal/abi.NoEscape", "internal/bytealg.MakeNoZero", "sync/atomic.AddInt64"], unfollowed := true, recurses := true, apart := false }
def RatchetSessionsSaid : Prop := ratchetSessionsRow.holds Try.pinned (OpenSpec.ofChange ratchetSessionsSpec)

/-- ITS FALSE NEIGHBOUR: 'it returns false'. Refute it at one input. -/
def ratchetSessionsWrong : ChangeSpec := { name := "ratchetSessions", fn := fun _ => fun
  | [d1, d2] => { results := [.lit (.bool false)], args := [d1, d2] }
  | _ => none }
def RatchetSessionsWrongFalsely : Prop := ratchetSessionsRow.holds Try.pinned (OpenSpec.ofChange ratchetSessionsWrong)

/-- 'escutcheonlaw12.RatchetNonces': WHATEVER THE INPUT: true; the input reads as it did. -/
def ratchetNoncesSpec : ChangeSpec := { name := "ratchetNonces", fn := fun _ => fun
  | [d1, d2] => { results := [.lit (.bool true)], args := [d1, d2] }
  | _ => none }
def ratchetNoncesRow : OpenClaim := { program := "ytlhlpcfjoccgcaa", sum := "dc0ed237152996ee8aa2459c902ccb2b7b6acf7485ab712326f99bf703f22e6e", func := "escutcheon/escutcheonlaw12.RatchetNonces", spec := "ratchetNonces", inPlace := ["sync/atomic.LoadInt64", "sync/atomic.LoadUint32", "(*internal/sync.Mutex).Lock", "internal/race.Disable", "sync/atomic.CompareAndSwapInt32", "internal/race.Enable", "internal/race.Acquire", "(*internal/sync.Mutex).lockSlow", "internal/sync.runtime_canSpin", "internal/sync.runtime_doSpin", "internal/sync.throw", "internal/sync.runtime_nanotime", "internal/sync.runtime_SemacquireMutex", "sync/atomic.AddInt32", "(*internal/sync.Mutex).Unlock", "internal/race.ReleaseMerge", "(*internal/sync.Mutex).unlockSlow", "internal/sync.fatal", "internal/sync.runtime_Semrelease", "sync/atomic.StoreUint32", "internal/abi.NoEscape", "internal/bytealg.MakeNoZero", "sync/atomic.AddInt64"], unfollowed := true, recurses := true, apart := false }
def RatchetNoncesSaid : Prop := ratchetNoncesRow.holds Try.pinned (OpenSpec.ofChange ratchetNoncesSpec)

/-- ITS FALSE NEIGHBOUR: 'it returns false'. Refute it at one input. -/
def ratchetNoncesWrong : ChangeSpec := { name := "ratchetNonces", fn := fun _ => fun
  | [d1, d2] => { results := [.lit (.bool false)], args := [d1, d2] }
  | _ => none }
def RatchetNoncesWrongFalsely : Prop := ratchetNoncesRow.holds Try.pinned (OpenSpec.ofChange ratchetNoncesWrong)

/-- 'escutcheonlaw12.RatchetEpochs': WHATEVER THE INPUT: true; the input reads as it did. -/
def ratchetEpochsSpec : ChangeSpec := { name := "ratchetEpochs", fn := fun _ => fun
  | [d] => { results := [.lit (.bool true)], args := [d] }
  | _ => none }
def ratchetEpochsRow : OpenClaim := { program := "ytlhlpcfjoccgcaa", sum := "dc0ed237152996ee8aa2459c902ccb2b7b6acf7485ab712326f99bf703f22e6e", func := "escutcheon/escutcheonlaw12.RatchetEpochs", spec := "ratchetEpochs", inPlace := ["sync/atomic.LoadInt64", "sync/atomic.LoadUint32", "(*internal/sync.Mutex).Lock", "internal/race.Disable", "sync/atomic.CompareAndSwapInt32", "internal/race.Enable", "internal/race.Acquire", "(*internal/sync.Mutex).lockSlow", "internal/sync.runtime_canSpin", "internal/sync.runtime_doSpin", "internal/sync.throw", "internal/sync.runtime_nanotime", "internal/sync.runtime_SemacquireMutex", "sync/atomic.AddInt32", "(*internal/sync.Mutex).Unlock", "internal/race.ReleaseMerge", "(*internal/sync.Mutex).unlockSlow", "internal/sync.fatal", "internal/sync.runtime_Semrelease", "sync/atomic.StoreUint32", "internal/abi.NoEscape", "internal/bytealg.MakeNoZero", "sync/atomic.AddInt64"], unfollowed := true, recurses := true, apart := false }
def RatchetEpochsSaid : Prop := ratchetEpochsRow.holds Try.pinned (OpenSpec.ofChange ratchetEpochsSpec)

/-- ITS FALSE NEIGHBOUR: 'it returns false'. Refute it at one input. -/
def ratchetEpochsWrong : ChangeSpec := { name := "ratchetEpochs", fn := fun _ => fun
  | [d] => { results := [.lit (.bool false)], args := [d] }
  | _ => none }
def RatchetEpochsWrongFalsely : Prop := ratchetEpochsRow.holds Try.pinned (OpenSpec.ofChange ratchetEpochsWrong)

/- THE SECOND FORM. 'bulk': how many values and letters a reading holds, each counted each time it is reached (what is shared counts as often as it is met; a slice's spare places count too). A statement '..UptoSaid' is the law's where the arguments, and the package variables that the reading takes, are together of bulk at most 1048576: NARROWER than '..Said'. Prove '..Said' where nothing that the law and all that it calls make is longer than what came in: it says more and counts as full. Else prove '..UptoSaid'. A law counts once. -/
mutual
def uptoBulk {H : Type} : DataW H → Nat
  | .lit (.string bytes) => bytes.length + 1
  | .lit _ => 1
  | .nil => 1
  | .ptr d => uptoBulk d + 1
  | .slice elems spare => uptoBulkAll elems + uptoBulkAll spare + 1
  | .agg parts => uptoBulkAll parts + 1
  | .iface _ d => uptoBulk d + 1
  | .map entries => uptoBulkEntries entries + 1
  | .held _ => 1
def uptoBulkAll {H : Type} : List (DataW H) → Nat
  | [] => 0
  | d :: r => uptoBulk d + uptoBulkAll r
def uptoBulkEntries {H : Type} : List (Lit × DataW H) → Nat
  | [] => 0
  | x :: r => uptoBulkEntry x + uptoBulkEntries r
def uptoBulkEntry {H : Type} : Lit × DataW H → Nat
  | (.string bytes, d) => bytes.length + uptoBulk d + 1
  | (_, d) => uptoBulk d + 1
 end
def uptoSmall : (H : Type) → List (DataW H) → Bool := fun _ ds => decide (uptoBulkAll ds ≤ 1048576)
def OpenSpec.upto (s : _root_.Go.ChangeSpec) : _root_.Go.OpenSpec := { _root_.Go.OpenSpec.ofChange s with cond := some uptoSmall }

/-- 'escutcheonlaw12.RatchetTells', WHERE WHAT IT READS IS OF BULK AT MOST 1048576: true; the input reads as it did. -/
def ratchetTellsUptoRow : OpenClaim := { program := "ytlhlpcfjoccgcaa", sum := "dc0ed237152996ee8aa2459c902ccb2b7b6acf7485ab712326f99bf703f22e6e", func := "escutcheon/escutcheonlaw12.RatchetTells", spec := "ratchetTells", inPlace := ["sync/atomic.LoadInt64", "sync/atomic.LoadUint32", "(*internal/sync.Mutex).Lock", "internal/race.Disable", "sync/atomic.CompareAndSwapInt32", "internal/race.Enable", "internal/race.Acquire", "(*internal/sync.Mutex).lockSlow", "internal/sync.runtime_canSpin", "internal/sync.runtime_doSpin", "internal/sync.throw", "internal/sync.runtime_nanotime", "internal/sync.runtime_SemacquireMutex", "sync/atomic.AddInt32", "(*internal/sync.Mutex).Unlock", "internal/race.ReleaseMerge", "(*internal/sync.Mutex).unlockSlow", "internal/sync.fatal", "internal/sync.runtime_Semrelease", "sync/atomic.StoreUint32", "internal/abi.NoEscape", "internal/bytealg.MakeNoZero", "sync/atomic.AddInt64"], unfollowed := true, recurses := true, apart := false, narrowed := true }
def RatchetTellsUptoSaid : Prop := ratchetTellsUptoRow.holds Try.pinned (OpenSpec.upto ratchetTellsSpec)

/-- 'escutcheonlaw12.RatchetApart', WHERE WHAT IT READS IS OF BULK AT MOST 1048576: true; the input reads as it did. -/
def ratchetApartUptoRow : OpenClaim := { program := "ytlhlpcfjoccgcaa", sum := "dc0ed237152996ee8aa2459c902ccb2b7b6acf7485ab712326f99bf703f22e6e", func := "escutcheon/escutcheonlaw12.RatchetApart", spec := "ratchetApart", inPlace := ["sync/atomic.LoadInt64", "sync/atomic.LoadUint32", "(*internal/sync.Mutex).Lock", "internal/race.Disable", "sync/atomic.CompareAndSwapInt32", "internal/race.Enable", "internal/race.Acquire", "(*internal/sync.Mutex).lockSlow", "internal/sync.runtime_canSpin", "internal/sync.runtime_doSpin", "internal/sync.throw", "internal/sync.runtime_nanotime", "internal/sync.runtime_SemacquireMutex", "sync/atomic.AddInt32", "(*internal/sync.Mutex).Unlock", "internal/race.ReleaseMerge", "(*internal/sync.Mutex).unlockSlow", "internal/sync.fatal", "internal/sync.runtime_Semrelease", "sync/atomic.StoreUint32", "internal/abi.NoEscape", "internal/bytealg.MakeNoZero", "sync/atomic.AddInt64"], unfollowed := true, recurses := true, apart := false, narrowed := true }
def RatchetApartUptoSaid : Prop := ratchetApartUptoRow.holds Try.pinned (OpenSpec.upto ratchetApartSpec)

/-- 'escutcheonlaw12.RatchetSteps', WHERE WHAT IT READS IS OF BULK AT MOST 1048576: true; the input reads as it did. -/
def ratchetStepsUptoRow : OpenClaim := { program := "ytlhlpcfjoccgcaa", sum := "dc0ed237152996ee8aa2459c902ccb2b7b6acf7485ab712326f99bf703f22e6e", func := "escutcheon/escutcheonlaw12.RatchetSteps", spec := "ratchetSteps", inPlace := ["sync/atomic.LoadInt64", "sync/atomic.LoadUint32", "(*internal/sync.Mutex).Lock", "internal/race.Disable", "sync/atomic.CompareAndSwapInt32", "internal/race.Enable", "internal/race.Acquire", "(*internal/sync.Mutex).lockSlow", "internal/sync.runtime_canSpin", "internal/sync.runtime_doSpin", "internal/sync.throw", "internal/sync.runtime_nanotime", "internal/sync.runtime_SemacquireMutex", "sync/atomic.AddInt32", "(*internal/sync.Mutex).Unlock", "internal/race.ReleaseMerge", "(*internal/sync.Mutex).unlockSlow", "internal/sync.fatal", "internal/sync.runtime_Semrelease", "sync/atomic.StoreUint32", "internal/abi.NoEscape", "internal/bytealg.MakeNoZero", "sync/atomic.AddInt64"], unfollowed := true, recurses := true, apart := false, narrowed := true }
def RatchetStepsUptoSaid : Prop := ratchetStepsUptoRow.holds Try.pinned (OpenSpec.upto ratchetStepsSpec)

/-- 'escutcheonlaw12.RatchetSessions', WHERE WHAT IT READS IS OF BULK AT MOST 1048576: true; the input reads as it did. -/
def ratchetSessionsUptoRow : OpenClaim := { program := "ytlhlpcfjoccgcaa", sum := "dc0ed237152996ee8aa2459c902ccb2b7b6acf7485ab712326f99bf703f22e6e", func := "escutcheon/escutcheonlaw12.RatchetSessions", spec := "ratchetSessions", inPlace := ["sync/atomic.LoadInt64", "sync/atomic.LoadUint32", "(*internal/sync.Mutex).Lock", "internal/race.Disable", "sync/atomic.CompareAndSwapInt32", "internal/race.Enable", "internal/race.Acquire", "(*internal/sync.Mutex).lockSlow", "internal/sync.runtime_canSpin", "internal/sync.runtime_doSpin", "internal/sync.throw", "internal/sync.runtime_nanotime", "internal/sync.runtime_SemacquireMutex", "sync/atomic.AddInt32", "(*internal/sync.Mutex).Unlock", "internal/race.ReleaseMerge", "(*internal/sync.Mutex).unlockSlow", "internal/sync.fatal", "internal/sync.runtime_Semrelease", "sync/atomic.StoreUint32", "internal/abi.NoEscape", "internal/bytealg.MakeNoZero", "sync/atomic.AddInt64"], unfollowed := true, recurses := true, apart := false, narrowed := true }
def RatchetSessionsUptoSaid : Prop := ratchetSessionsUptoRow.holds Try.pinned (OpenSpec.upto ratchetSessionsSpec)

/-- 'escutcheonlaw12.RatchetNonces', WHERE WHAT IT READS IS OF BULK AT MOST 1048576: true; the input reads as it did. -/
def ratchetNoncesUptoRow : OpenClaim := { program := "ytlhlpcfjoccgcaa", sum := "dc0ed237152996ee8aa2459c902ccb2b7b6acf7485ab712326f99bf703f22e6e", func := "escutcheon/escutcheonlaw12.RatchetNonces", spec := "ratchetNonces", inPlace := ["sync/atomic.LoadInt64", "sync/atomic.LoadUint32", "(*internal/sync.Mutex).Lock", "internal/race.Disable", "sync/atomic.CompareAndSwapInt32", "internal/race.Enable", "internal/race.Acquire", "(*internal/sync.Mutex).lockSlow", "internal/sync.runtime_canSpin", "internal/sync.runtime_doSpin", "internal/sync.throw", "internal/sync.runtime_nanotime", "internal/sync.runtime_SemacquireMutex", "sync/atomic.AddInt32", "(*internal/sync.Mutex).Unlock", "internal/race.ReleaseMerge", "(*internal/sync.Mutex).unlockSlow", "internal/sync.fatal", "internal/sync.runtime_Semrelease", "sync/atomic.StoreUint32", "internal/abi.NoEscape", "internal/bytealg.MakeNoZero", "sync/atomic.AddInt64"], unfollowed := true, recurses := true, apart := false, narrowed := true }
def RatchetNoncesUptoSaid : Prop := ratchetNoncesUptoRow.holds Try.pinned (OpenSpec.upto ratchetNoncesSpec)

/-- 'escutcheonlaw12.RatchetEpochs', WHERE WHAT IT READS IS OF BULK AT MOST 1048576: true; the input reads as it did. -/
def ratchetEpochsUptoRow : OpenClaim := { program := "ytlhlpcfjoccgcaa", sum := "dc0ed237152996ee8aa2459c902ccb2b7b6acf7485ab712326f99bf703f22e6e", func := "escutcheon/escutcheonlaw12.RatchetEpochs", spec := "ratchetEpochs", inPlace := ["sync/atomic.LoadInt64", "sync/atomic.LoadUint32", "(*internal/sync.Mutex).Lock", "internal/race.Disable", "sync/atomic.CompareAndSwapInt32", "internal/race.Enable", "internal/race.Acquire", "(*internal/sync.Mutex).lockSlow", "internal/sync.runtime_canSpin", "internal/sync.runtime_doSpin", "internal/sync.throw", "internal/sync.runtime_nanotime", "internal/sync.runtime_SemacquireMutex", "sync/atomic.AddInt32", "(*internal/sync.Mutex).Unlock", "internal/race.ReleaseMerge", "(*internal/sync.Mutex).unlockSlow", "internal/sync.fatal", "internal/sync.runtime_Semrelease", "sync/atomic.StoreUint32", "internal/abi.NoEscape", "internal/bytealg.MakeNoZero", "sync/atomic.AddInt64"], unfollowed := true, recurses := true, apart := false, narrowed := true }
def RatchetEpochsUptoSaid : Prop := ratchetEpochsUptoRow.holds Try.pinned (OpenSpec.upto ratchetEpochsSpec)

end Rows
end Go.Proofs.Ytlhlpcfjoccgcaa
