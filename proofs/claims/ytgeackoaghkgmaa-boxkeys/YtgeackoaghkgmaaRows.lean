/-
  No cell of these rows narrows 'for every input' (looked for: loops, veiled, ifaces, maps, wideKeys, modest, calm, conditions, laid).
  DERIVED. THE GIVEN ROWS OF THIS SEAT. 6 by the template 'for every input the law returns true; each argument reads behind the call as it read before'; 0 by the template 'total and deterministic' (their statements: YtgeackoaghkgmaaTotals.lean).
  GIVEN WITH THE SEED: the statements are not yours to turn. If you find one false, say at which input.
  Laid BY PROGRAM, IN A SANDBOX (cutbox-rows.mjs): the forced cells as the released guide's own fill.sh prints them over the translation f8bb687400e505ff… (all of the seat's roots in one cut). By AI agents, Wed Nov 11 2026. No macro, syntax, notation, axiom, sorry.
-/
import Derived.Test.YtgeackoaghkgmaaChecked
import GoSem.Claim
import GoSem.ClaimJoined
import GoSem.ClaimMapViews
import Derived.JoinedTies
import Derived.KernelRfl
namespace Go.Proofs.Ytgeackoaghkgmaa
/- THE CELL 'sum', in the pinned program and in every row, IS THE sha256 OF THE DUMP (.gsa) THAT YtgeackoaghkgmaaProg.lean LOADS. Nothing in Lean hashes anything: it is a label: what it is worth is what the hold of that sum in a sandbox is worth. -/
noncomputable def Try.pinned : Pinned := { name := "ytgeackoaghkgmaa", sum := "f8bb687400e505ff50d4340d30647f64c5f6d98bf8c27fc9ec6299c0c9f190e3", checked := Try.checked }
namespace Rows
def none {H : Type} : Left H := { results := [], args := [] }

/-- 'escutcheonlaw7.BoxTells': WHATEVER THE INPUT: true; the input reads as it did. -/
def boxTellsSpec : ChangeSpec := { name := "boxTells", fn := fun _ => fun
  | [d1, d2, d3, d4, d5, d6] => { results := [.lit (.bool true)], args := [d1, d2, d3, d4, d5, d6] }
  | _ => none }
def boxTellsRow : OpenClaim := { program := "ytgeackoaghkgmaa", sum := "f8bb687400e505ff50d4340d30647f64c5f6d98bf8c27fc9ec6299c0c9f190e3", func := "escutcheon/escutcheonlaw7.BoxTells", spec := "boxTells", inPlace := ["sync/atomic.StoreUint32", "internal/abi.NoEscape", "internal/bytealg.MakeNoZero", "sync/atomic.AddUint32", "math/bits.Add64", "sync/atomic.AddUint64", "sync/atomic.LoadUint64", "sync/atomic.LoadUint32"], apart := false }
def BoxTellsSaid : Prop := boxTellsRow.holds Try.pinned (OpenSpec.ofChange boxTellsSpec)

/-- ITS FALSE NEIGHBOUR: 'it returns false'. Refute it at one input. -/
def boxTellsWrong : ChangeSpec := { name := "boxTells", fn := fun _ => fun
  | [d1, d2, d3, d4, d5, d6] => { results := [.lit (.bool false)], args := [d1, d2, d3, d4, d5, d6] }
  | _ => none }
def BoxTellsWrongFalsely : Prop := boxTellsRow.holds Try.pinned (OpenSpec.ofChange boxTellsWrong)

/-- 'escutcheonlaw7.BoxTurned': WHATEVER THE INPUT: true; the input reads as it did. -/
def boxTurnedSpec : ChangeSpec := { name := "boxTurned", fn := fun _ => fun
  | [d1, d2, d3, d4, d5, d6, d7] => { results := [.lit (.bool true)], args := [d1, d2, d3, d4, d5, d6, d7] }
  | _ => none }
def boxTurnedRow : OpenClaim := { program := "ytgeackoaghkgmaa", sum := "f8bb687400e505ff50d4340d30647f64c5f6d98bf8c27fc9ec6299c0c9f190e3", func := "escutcheon/escutcheonlaw7.BoxTurned", spec := "boxTurned", inPlace := ["sync/atomic.StoreUint32", "internal/abi.NoEscape", "internal/bytealg.MakeNoZero", "sync/atomic.AddUint32", "math/bits.Add64", "sync/atomic.AddUint64", "sync/atomic.LoadUint64", "sync/atomic.LoadUint32"], apart := false }
def BoxTurnedSaid : Prop := boxTurnedRow.holds Try.pinned (OpenSpec.ofChange boxTurnedSpec)

/-- ITS FALSE NEIGHBOUR: 'it returns false'. Refute it at one input. -/
def boxTurnedWrong : ChangeSpec := { name := "boxTurned", fn := fun _ => fun
  | [d1, d2, d3, d4, d5, d6, d7] => { results := [.lit (.bool false)], args := [d1, d2, d3, d4, d5, d6, d7] }
  | _ => none }
def BoxTurnedWrongFalsely : Prop := boxTurnedRow.holds Try.pinned (OpenSpec.ofChange boxTurnedWrong)

/-- 'escutcheonlaw7.BoxHides': WHATEVER THE INPUT: true; the input reads as it did. -/
def boxHidesSpec : ChangeSpec := { name := "boxHides", fn := fun _ => fun
  | [d1, d2, d3, d4] => { results := [.lit (.bool true)], args := [d1, d2, d3, d4] }
  | _ => none }
def boxHidesRow : OpenClaim := { program := "ytgeackoaghkgmaa", sum := "f8bb687400e505ff50d4340d30647f64c5f6d98bf8c27fc9ec6299c0c9f190e3", func := "escutcheon/escutcheonlaw7.BoxHides", spec := "boxHides", inPlace := ["sync/atomic.StoreUint32", "internal/abi.NoEscape", "internal/bytealg.MakeNoZero", "sync/atomic.AddUint32", "math/bits.Add64", "sync/atomic.AddUint64", "sync/atomic.LoadUint64", "sync/atomic.LoadUint32"], apart := false }
def BoxHidesSaid : Prop := boxHidesRow.holds Try.pinned (OpenSpec.ofChange boxHidesSpec)

/-- ITS FALSE NEIGHBOUR: 'it returns false'. Refute it at one input. -/
def boxHidesWrong : ChangeSpec := { name := "boxHides", fn := fun _ => fun
  | [d1, d2, d3, d4] => { results := [.lit (.bool false)], args := [d1, d2, d3, d4] }
  | _ => none }
def BoxHidesWrongFalsely : Prop := boxHidesRow.holds Try.pinned (OpenSpec.ofChange boxHidesWrong)

/-- 'escutcheonlaw7.BoxMore': WHATEVER THE INPUT: true; the input reads as it did. -/
def boxMoreSpec : ChangeSpec := { name := "boxMore", fn := fun _ => fun
  | [d1, d2, d3, d4, d5] => { results := [.lit (.bool true)], args := [d1, d2, d3, d4, d5] }
  | _ => none }
def boxMoreRow : OpenClaim := { program := "ytgeackoaghkgmaa", sum := "f8bb687400e505ff50d4340d30647f64c5f6d98bf8c27fc9ec6299c0c9f190e3", func := "escutcheon/escutcheonlaw7.BoxMore", spec := "boxMore", inPlace := ["sync/atomic.StoreUint32", "internal/abi.NoEscape", "internal/bytealg.MakeNoZero", "sync/atomic.AddUint32", "math/bits.Add64", "sync/atomic.AddUint64", "sync/atomic.LoadUint64", "sync/atomic.LoadUint32"], apart := false }
def BoxMoreSaid : Prop := boxMoreRow.holds Try.pinned (OpenSpec.ofChange boxMoreSpec)

/-- ITS FALSE NEIGHBOUR: 'it returns false'. Refute it at one input. -/
def boxMoreWrong : ChangeSpec := { name := "boxMore", fn := fun _ => fun
  | [d1, d2, d3, d4, d5] => { results := [.lit (.bool false)], args := [d1, d2, d3, d4, d5] }
  | _ => none }
def BoxMoreWrongFalsely : Prop := boxMoreRow.holds Try.pinned (OpenSpec.ofChange boxMoreWrong)

/-- 'escutcheonlaw7.BoxKeys': WHATEVER THE INPUT: true; the input reads as it did. -/
def boxKeysSpec : ChangeSpec := { name := "boxKeys", fn := fun _ => fun
  | [d1, d2, d3, d4, d5] => { results := [.lit (.bool true)], args := [d1, d2, d3, d4, d5] }
  | _ => none }
def boxKeysRow : OpenClaim := { program := "ytgeackoaghkgmaa", sum := "f8bb687400e505ff50d4340d30647f64c5f6d98bf8c27fc9ec6299c0c9f190e3", func := "escutcheon/escutcheonlaw7.BoxKeys", spec := "boxKeys", inPlace := ["sync/atomic.StoreUint32", "internal/abi.NoEscape", "internal/bytealg.MakeNoZero", "sync/atomic.AddUint32", "math/bits.Add64", "sync/atomic.AddUint64", "sync/atomic.LoadUint64", "sync/atomic.LoadUint32"], apart := false }
def BoxKeysSaid : Prop := boxKeysRow.holds Try.pinned (OpenSpec.ofChange boxKeysSpec)

/-- ITS FALSE NEIGHBOUR: 'it returns false'. Refute it at one input. -/
def boxKeysWrong : ChangeSpec := { name := "boxKeys", fn := fun _ => fun
  | [d1, d2, d3, d4, d5] => { results := [.lit (.bool false)], args := [d1, d2, d3, d4, d5] }
  | _ => none }
def BoxKeysWrongFalsely : Prop := boxKeysRow.holds Try.pinned (OpenSpec.ofChange boxKeysWrong)

/-- 'escutcheonlaw7.BoxEmpty': WHATEVER THE INPUT: true; the input reads as it did. -/
def boxEmptySpec : ChangeSpec := { name := "boxEmpty", fn := fun _ => fun
  | [d1, d2, d3, d4] => { results := [.lit (.bool true)], args := [d1, d2, d3, d4] }
  | _ => none }
def boxEmptyRow : OpenClaim := { program := "ytgeackoaghkgmaa", sum := "f8bb687400e505ff50d4340d30647f64c5f6d98bf8c27fc9ec6299c0c9f190e3", func := "escutcheon/escutcheonlaw7.BoxEmpty", spec := "boxEmpty", inPlace := ["sync/atomic.StoreUint32", "internal/abi.NoEscape", "internal/bytealg.MakeNoZero", "sync/atomic.AddUint32", "math/bits.Add64", "sync/atomic.AddUint64", "sync/atomic.LoadUint64", "sync/atomic.LoadUint32"], apart := false }
def BoxEmptySaid : Prop := boxEmptyRow.holds Try.pinned (OpenSpec.ofChange boxEmptySpec)

/-- ITS FALSE NEIGHBOUR: 'it returns false'. Refute it at one input. -/
def boxEmptyWrong : ChangeSpec := { name := "boxEmpty", fn := fun _ => fun
  | [d1, d2, d3, d4] => { results := [.lit (.bool false)], args := [d1, d2, d3, d4] }
  | _ => none }
def BoxEmptyWrongFalsely : Prop := boxEmptyRow.holds Try.pinned (OpenSpec.ofChange boxEmptyWrong)

/- THE SECOND FORM. 'bulk': how many values and letters a reading holds, each counted each time it is reached (what is shared counts as often as it is met; a slice's spare places count too). A statement '..UptoSaid' is the law's where the arguments, and the package variables that the reading takes, are together of bulk at most 1048576: NARROWER than '..Said'. Prove '..Said' where nothing that the law and all that it calls make is longer than what came in: it says more and counts as full. Else prove '..UptoSaid'. A law counts once. -/
mutual
def uptoBulk {H : Type} : DataW H → Nat
  | .lit (.string bytes) => bytes.length + 1
  | .lit _ => 1
  | .nil => 1
  | .ptr d => uptoBulk d + 1
  | .slice elems spare => uptoBulkAll elems + uptoBulkAll spare + 1
  | .agg parts => uptoBulkAll parts + 1
  | .iface _ d => uptoBulk d + 1
  | .map entries => uptoBulkEntries entries + 1
  | .held _ => 1
def uptoBulkAll {H : Type} : List (DataW H) → Nat
  | [] => 0
  | d :: r => uptoBulk d + uptoBulkAll r
def uptoBulkEntries {H : Type} : List (Lit × DataW H) → Nat
  | [] => 0
  | x :: r => uptoBulkEntry x + uptoBulkEntries r
def uptoBulkEntry {H : Type} : Lit × DataW H → Nat
  | (.string bytes, d) => bytes.length + uptoBulk d + 1
  | (_, d) => uptoBulk d + 1
 end
def uptoSmall : (H : Type) → List (DataW H) → Bool := fun _ ds => decide (uptoBulkAll ds ≤ 1048576)
def OpenSpec.upto (s : _root_.Go.ChangeSpec) : _root_.Go.OpenSpec := { _root_.Go.OpenSpec.ofChange s with cond := some uptoSmall }

/-- 'escutcheonlaw7.BoxTells', WHERE WHAT IT READS IS OF BULK AT MOST 1048576: true; the input reads as it did. -/
def boxTellsUptoRow : OpenClaim := { program := "ytgeackoaghkgmaa", sum := "f8bb687400e505ff50d4340d30647f64c5f6d98bf8c27fc9ec6299c0c9f190e3", func := "escutcheon/escutcheonlaw7.BoxTells", spec := "boxTells", inPlace := ["sync/atomic.StoreUint32", "internal/abi.NoEscape", "internal/bytealg.MakeNoZero", "sync/atomic.AddUint32", "math/bits.Add64", "sync/atomic.AddUint64", "sync/atomic.LoadUint64", "sync/atomic.LoadUint32"], apart := false, narrowed := true }
def BoxTellsUptoSaid : Prop := boxTellsUptoRow.holds Try.pinned (OpenSpec.upto boxTellsSpec)

/-- 'escutcheonlaw7.BoxTurned', WHERE WHAT IT READS IS OF BULK AT MOST 1048576: true; the input reads as it did. -/
def boxTurnedUptoRow : OpenClaim := { program := "ytgeackoaghkgmaa", sum := "f8bb687400e505ff50d4340d30647f64c5f6d98bf8c27fc9ec6299c0c9f190e3", func := "escutcheon/escutcheonlaw7.BoxTurned", spec := "boxTurned", inPlace := ["sync/atomic.StoreUint32", "internal/abi.NoEscape", "internal/bytealg.MakeNoZero", "sync/atomic.AddUint32", "math/bits.Add64", "sync/atomic.AddUint64", "sync/atomic.LoadUint64", "sync/atomic.LoadUint32"], apart := false, narrowed := true }
def BoxTurnedUptoSaid : Prop := boxTurnedUptoRow.holds Try.pinned (OpenSpec.upto boxTurnedSpec)

/-- 'escutcheonlaw7.BoxHides', WHERE WHAT IT READS IS OF BULK AT MOST 1048576: true; the input reads as it did. -/
def boxHidesUptoRow : OpenClaim := { program := "ytgeackoaghkgmaa", sum := "f8bb687400e505ff50d4340d30647f64c5f6d98bf8c27fc9ec6299c0c9f190e3", func := "escutcheon/escutcheonlaw7.BoxHides", spec := "boxHides", inPlace := ["sync/atomic.StoreUint32", "internal/abi.NoEscape", "internal/bytealg.MakeNoZero", "sync/atomic.AddUint32", "math/bits.Add64", "sync/atomic.AddUint64", "sync/atomic.LoadUint64", "sync/atomic.LoadUint32"], apart := false, narrowed := true }
def BoxHidesUptoSaid : Prop := boxHidesUptoRow.holds Try.pinned (OpenSpec.upto boxHidesSpec)

/-- 'escutcheonlaw7.BoxMore', WHERE WHAT IT READS IS OF BULK AT MOST 1048576: true; the input reads as it did. -/
def boxMoreUptoRow : OpenClaim := { program := "ytgeackoaghkgmaa", sum := "f8bb687400e505ff50d4340d30647f64c5f6d98bf8c27fc9ec6299c0c9f190e3", func := "escutcheon/escutcheonlaw7.BoxMore", spec := "boxMore", inPlace := ["sync/atomic.StoreUint32", "internal/abi.NoEscape", "internal/bytealg.MakeNoZero", "sync/atomic.AddUint32", "math/bits.Add64", "sync/atomic.AddUint64", "sync/atomic.LoadUint64", "sync/atomic.LoadUint32"], apart := false, narrowed := true }
def BoxMoreUptoSaid : Prop := boxMoreUptoRow.holds Try.pinned (OpenSpec.upto boxMoreSpec)

/-- 'escutcheonlaw7.BoxKeys', WHERE WHAT IT READS IS OF BULK AT MOST 1048576: true; the input reads as it did. -/
def boxKeysUptoRow : OpenClaim := { program := "ytgeackoaghkgmaa", sum := "f8bb687400e505ff50d4340d30647f64c5f6d98bf8c27fc9ec6299c0c9f190e3", func := "escutcheon/escutcheonlaw7.BoxKeys", spec := "boxKeys", inPlace := ["sync/atomic.StoreUint32", "internal/abi.NoEscape", "internal/bytealg.MakeNoZero", "sync/atomic.AddUint32", "math/bits.Add64", "sync/atomic.AddUint64", "sync/atomic.LoadUint64", "sync/atomic.LoadUint32"], apart := false, narrowed := true }
def BoxKeysUptoSaid : Prop := boxKeysUptoRow.holds Try.pinned (OpenSpec.upto boxKeysSpec)

/-- 'escutcheonlaw7.BoxEmpty', WHERE WHAT IT READS IS OF BULK AT MOST 1048576: true; the input reads as it did. -/
def boxEmptyUptoRow : OpenClaim := { program := "ytgeackoaghkgmaa", sum := "f8bb687400e505ff50d4340d30647f64c5f6d98bf8c27fc9ec6299c0c9f190e3", func := "escutcheon/escutcheonlaw7.BoxEmpty", spec := "boxEmpty", inPlace := ["sync/atomic.StoreUint32", "internal/abi.NoEscape", "internal/bytealg.MakeNoZero", "sync/atomic.AddUint32", "math/bits.Add64", "sync/atomic.AddUint64", "sync/atomic.LoadUint64", "sync/atomic.LoadUint32"], apart := false, narrowed := true }
def BoxEmptyUptoSaid : Prop := boxEmptyUptoRow.holds Try.pinned (OpenSpec.upto boxEmptySpec)

end Rows
end Go.Proofs.Ytgeackoaghkgmaa
