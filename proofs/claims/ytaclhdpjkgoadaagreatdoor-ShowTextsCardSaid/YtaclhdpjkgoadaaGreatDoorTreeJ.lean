/- Parts of the proof: TreeJ. -/
import Derived.Test.YtaclhdpjkgoadaaGreatDoorP5
import Derived.Test.YtaclhdpjkgoadaaGreatDoorP6
set_option linter.unusedSimpArgs false
set_option linter.unusedVariables false
namespace Go.Proofs.YtaclhdpjkgoadaaGreatDoor
open Go.RowKit
end Go.Proofs.YtaclhdpjkgoadaaGreatDoor
