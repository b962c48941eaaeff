/- HeapFields: two objects. -/
import Derived.Test.YteogphbdpjnjoaaGreatHfeA
set_option linter.unusedSimpArgs false
set_option linter.unusedVariables false
set_option maxRecDepth 1000000
namespace Go.Proofs.YteogphbdpjnjoaaGreat
open Go.RowKit

theorem hfe_10 : hfe 1 0 = true := by decide +kernel
theorem hfe_11 : hfe 1 1 = true := by decide +kernel
theorem hfe_12 : hfe 1 2 = true := by decide +kernel
end Go.Proofs.YteogphbdpjnjoaaGreat
