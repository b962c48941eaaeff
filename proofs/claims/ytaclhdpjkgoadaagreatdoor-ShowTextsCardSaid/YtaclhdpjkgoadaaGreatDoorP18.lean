/- Parts of the proof: BxN, StA, StB. -/
import Derived.Test.YtaclhdpjkgoadaaGreatDoorP9
import Derived.Test.YtaclhdpjkgoadaaGreatDoorP23
import Derived.Test.YtaclhdpjkgoadaaGreatDoorP22
namespace Go.Proofs.YtaclhdpjkgoadaaGreatDoor
set_option linter.unusedSimpArgs false
set_option linter.unusedVariables false
section
open Go.RowKit
end
section
open Go.RowKit
end
section
open Go.RowKit
end
end Go.Proofs.YtaclhdpjkgoadaaGreatDoor
