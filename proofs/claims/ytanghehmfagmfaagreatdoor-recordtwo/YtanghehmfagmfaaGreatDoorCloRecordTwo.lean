/- A closed fact of the translated program that the law RecordTwo's row asks for (the kernel reckons it). -/
import Derived.Test.YtanghehmfagmfaaGreatDoorRows
import Derived.WalkKit
import Derived.ProofKit
import Derived.OpenShut
namespace Go.Proofs.YtanghehmfagmfaaGreatDoor.recordTwo
theorem closed : joinedFacts Tryz.pinned.checked.prog 12 Tryz.f12 Rows.recordTwoSpec Rows.recordTwoRow = true := by kernel_rfl
end Go.Proofs.YtanghehmfagmfaaGreatDoor.recordTwo
