/- A closed fact of the translated program that the law RecordEnds's row asks for (the kernel reckons it). -/
import Derived.Test.YtanghehmfagmfaaGreatDoorRows
import Derived.WalkKit
import Derived.ProofKit
import Derived.OpenShut
namespace Go.Proofs.YtanghehmfagmfaaGreatDoor.recordEnds
theorem closed : joinedFacts Tryz.pinned.checked.prog 4 Tryz.f4 Rows.recordEndsSpec Rows.recordEndsRow = true := by kernel_rfl
end Go.Proofs.YtanghehmfagmfaaGreatDoor.recordEnds
