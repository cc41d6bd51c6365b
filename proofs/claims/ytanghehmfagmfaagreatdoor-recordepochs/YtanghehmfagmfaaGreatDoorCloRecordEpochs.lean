/- A closed fact of the translated program that the law RecordEpochs's row asks for (the kernel reckons it). -/
import Derived.Test.YtanghehmfagmfaaGreatDoorRows
import Derived.WalkKit
import Derived.ProofKit
import Derived.OpenShut
namespace Go.Proofs.YtanghehmfagmfaaGreatDoor.recordEpochs
theorem closed : joinedFacts Tryz.pinned.checked.prog 7 Tryz.f7 Rows.recordEpochsSpec Rows.recordEpochsRow = true := by kernel_rfl
end Go.Proofs.YtanghehmfagmfaaGreatDoor.recordEpochs
