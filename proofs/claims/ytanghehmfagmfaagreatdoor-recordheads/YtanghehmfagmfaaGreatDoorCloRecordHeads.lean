/- A closed fact of the translated program that the law RecordHeads's row asks for (the kernel reckons it). -/
import Derived.Test.YtanghehmfagmfaaGreatDoorRows
import Derived.WalkKit
import Derived.ProofKit
import Derived.OpenShut
namespace Go.Proofs.YtanghehmfagmfaaGreatDoor.recordHeads
theorem closed : joinedFacts Tryz.pinned.checked.prog 9 Tryz.f9 Rows.recordHeadsSpec Rows.recordHeadsRow = true := by kernel_rfl
end Go.Proofs.YtanghehmfagmfaaGreatDoor.recordHeads
