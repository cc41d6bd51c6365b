/- A closed fact of the translated program that the law RecordRefuses's row asks for (the kernel reckons it). -/
import Derived.Test.YtanghehmfagmfaaGreatDoorRows
import Derived.WalkKit
import Derived.ProofKit
import Derived.OpenShut
namespace Go.Proofs.YtanghehmfagmfaaGreatDoor.recordRefuses
theorem closed : joinedFacts Tryz.pinned.checked.prog 11 Tryz.f11 Rows.recordRefusesSpec Rows.recordRefusesRow = true := by kernel_rfl
end Go.Proofs.YtanghehmfagmfaaGreatDoor.recordRefuses
