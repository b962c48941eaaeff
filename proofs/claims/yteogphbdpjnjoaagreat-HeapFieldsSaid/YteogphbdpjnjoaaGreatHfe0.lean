/- HeapFields: two objects. -/
import Derived.Test.YteogphbdpjnjoaaGreatHfeA
set_option linter.unusedSimpArgs false
set_option linter.unusedVariables false
set_option maxRecDepth 1000000
namespace Go.Proofs.YteogphbdpjnjoaaGreat
open Go.RowKit

theorem hfe_00 : hfe 0 0 = true := by decide +kernel
theorem hfe_01 : hfe 0 1 = true := by decide +kernel
theorem hfe_02 : hfe 0 2 = true := by decide +kernel
end Go.Proofs.YteogphbdpjnjoaaGreat
