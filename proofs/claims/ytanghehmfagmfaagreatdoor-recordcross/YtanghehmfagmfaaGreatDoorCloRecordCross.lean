/- A closed fact of the translated program that the law RecordCross's row asks for (the kernel reckons it). -/
import Derived.Test.YtanghehmfagmfaaGreatDoorRows
import Derived.WalkKit
import Derived.ProofKit
import Derived.OpenShut
namespace Go.Proofs.YtanghehmfagmfaaGreatDoor.recordCross
theorem closed : joinedFacts Tryz.pinned.checked.prog 10 Tryz.f10 Rows.recordCrossSpec Rows.recordCrossRow = true := by kernel_rfl
end Go.Proofs.YtanghehmfagmfaaGreatDoor.recordCross
