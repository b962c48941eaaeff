/- Parts of the proof: StE, StF. -/
import Derived.Test.YtaclhdpjkgoadaaGreatDoorP24
import Derived.Test.YtaclhdpjkgoadaaGreatDoorP22
namespace Go.Proofs.YtaclhdpjkgoadaaGreatDoor
set_option linter.unusedSimpArgs false
set_option linter.unusedVariables false
section
open Go.RowKit
end
section
open Go.RowKit
end
end Go.Proofs.YtaclhdpjkgoadaaGreatDoor
