/- A closed fact of the translated program that the law RecordFar's row asks for (the kernel reckons it). -/
import Derived.Test.YtanghehmfagmfaaGreatDoorRows
import Derived.WalkKit
import Derived.ProofKit
import Derived.OpenShut
namespace Go.Proofs.YtanghehmfagmfaaGreatDoor.recordFar
theorem closed : joinedFacts Tryz.pinned.checked.prog 8 Tryz.f8 Rows.recordFarSpec Rows.recordFarRow = true := by kernel_rfl
end Go.Proofs.YtanghehmfagmfaaGreatDoor.recordFar
