/- A closed fact of the translated program that the law RecordShapes's row asks for (the kernel reckons it). -/
import Derived.Test.YtanghehmfagmfaaGreatDoorRows
import Derived.WalkKit
import Derived.ProofKit
import Derived.OpenShut
namespace Go.Proofs.YtanghehmfagmfaaGreatDoor.recordShapes
theorem closed : joinedFacts Tryz.pinned.checked.prog 6 Tryz.f6 Rows.recordShapesSpec Rows.recordShapesRow = true := by kernel_rfl
end Go.Proofs.YtanghehmfagmfaaGreatDoor.recordShapes
