/- Cases of BindReturns, by running them. -/
import Derived.Test.YtnohnacgefhgnaaGreatDoorBreA
set_option linter.unusedSimpArgs false
set_option linter.unusedVariables false
set_option maxRecDepth 1000000
namespace Go.Proofs.YtnohnacgefhgnaaGreatDoor
open Go.RowKit

theorem bre_8 : breb 8 1 = true := by decide +kernel
theorem bre_9 : breb 9 1 = true := by decide +kernel
theorem bre_e {c : Nat} (h0 : 8 ≤ c) (hi : c < 10) : brec c = true := by
  by_cases h9 : c < 9
  · exact breb_is bre_8 (by omega) h9
  exact breb_is bre_9 (by omega) hi
end Go.Proofs.YtnohnacgefhgnaaGreatDoor
