/- HeapFields: two objects. -/
import Derived.Test.YteogphbdpjnjoaaGreatHfeA
set_option linter.unusedSimpArgs false
set_option linter.unusedVariables false
set_option maxRecDepth 1000000
namespace Go.Proofs.YteogphbdpjnjoaaGreat
open Go.RowKit

theorem hfe_20 : hfe 2 0 = true := by decide +kernel
theorem hfe_21 : hfe 2 1 = true := by decide +kernel
theorem hfe_22 : hfe 2 2 = true := by decide +kernel
end Go.Proofs.YteogphbdpjnjoaaGreat
