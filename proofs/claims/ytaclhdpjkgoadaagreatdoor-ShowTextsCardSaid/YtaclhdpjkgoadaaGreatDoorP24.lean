/- Parts of the proof: StC, StD. -/
import Derived.Test.YtaclhdpjkgoadaaGreatDoorP18
import Derived.Test.YtaclhdpjkgoadaaGreatDoorP23
import Derived.Deep.RegionWith
namespace Go.Proofs.YtaclhdpjkgoadaaGreatDoor
set_option linter.unusedSimpArgs false
set_option linter.unusedVariables false
section
open Go.RowKit
end
section
open Go.RowKit
end
end Go.Proofs.YtaclhdpjkgoadaaGreatDoor
