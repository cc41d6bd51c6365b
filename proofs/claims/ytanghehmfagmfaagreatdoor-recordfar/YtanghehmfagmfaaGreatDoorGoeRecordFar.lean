/- Two closed facts of the translated program that the law RecordFar's card asks for (the kernel reckons them). -/
import Derived.Test.YtanghehmfagmfaaGreatDoorRows
import Derived.Test.YtanghehmfagmfaaGreatDoorCards
import Derived.WalkKit
import Derived.ProofKit
import Derived.OpenShut
namespace Go.Proofs.YtanghehmfagmfaaGreatDoor.recordFar
theorem mainIs : Tryz.pinned.checked.prog.mainIs = some (Rows.recordFarCard.stood.harness.1, Rows.recordFarCard.stood.harness.2.toList) := by kernel_rfl
theorem goes : false = Rows.recordFarRow.goesBy Tryz.pinned.checked.prog := by kernel_rfl
end Go.Proofs.YtanghehmfagmfaaGreatDoor.recordFar
