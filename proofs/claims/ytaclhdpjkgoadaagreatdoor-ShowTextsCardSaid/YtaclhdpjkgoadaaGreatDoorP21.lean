/- Parts of the proof: TreeK, TreeL, TreeM, TreeO. -/
import Derived.Test.YtaclhdpjkgoadaaGreatDoorTreeJ
namespace Go.Proofs.YtaclhdpjkgoadaaGreatDoor
set_option linter.unusedSimpArgs false
set_option linter.unusedVariables false
section
open Go.RowKit
end
section
open Go.RowKit
end
section
open Go.RowKit
end
section
open Go.RowKit
end
end Go.Proofs.YtaclhdpjkgoadaaGreatDoor
