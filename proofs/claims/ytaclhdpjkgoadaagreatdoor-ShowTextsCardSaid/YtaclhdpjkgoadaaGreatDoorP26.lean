/- Parts of the proof: ClA, ClB, ClC. -/
import Derived.Test.YtaclhdpjkgoadaaGreatDoorP25
namespace Go.Proofs.YtaclhdpjkgoadaaGreatDoor
set_option linter.unusedSimpArgs false
set_option linter.unusedVariables false
section
open Go.RowKit
end
section
open Go.RowKit
end
section
open Go.RowKit
end
end Go.Proofs.YtaclhdpjkgoadaaGreatDoor
