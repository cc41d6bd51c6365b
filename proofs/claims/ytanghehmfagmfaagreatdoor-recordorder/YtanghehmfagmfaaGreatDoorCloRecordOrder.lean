/- A closed fact of the translated program that the law RecordOrder's row asks for (the kernel reckons it). -/
import Derived.Test.YtanghehmfagmfaaGreatDoorRows
import Derived.WalkKit
import Derived.ProofKit
import Derived.OpenShut
namespace Go.Proofs.YtanghehmfagmfaaGreatDoor.recordOrder
theorem closed : joinedFacts Tryz.pinned.checked.prog 5 Tryz.f5 Rows.recordOrderSpec Rows.recordOrderRow = true := by kernel_rfl
end Go.Proofs.YtanghehmfagmfaaGreatDoor.recordOrder
