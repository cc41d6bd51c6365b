/- A closed fact of the translated program that the law RecordPlays's row asks for (the kernel reckons it). -/
import Derived.Test.YtanghehmfagmfaaGreatDoorRows
import Derived.WalkKit
import Derived.ProofKit
import Derived.OpenShut
namespace Go.Proofs.YtanghehmfagmfaaGreatDoor.recordPlays
theorem closed : joinedFacts Tryz.pinned.checked.prog 3 Tryz.f3 Rows.recordPlaysSpec Rows.recordPlaysRow = true := by kernel_rfl
end Go.Proofs.YtanghehmfagmfaaGreatDoor.recordPlays
