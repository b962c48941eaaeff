/- Cases of BindReturns, by running them. -/
import Derived.Test.YtnohnacgefhgnaaGreatDoorBreA
set_option linter.unusedSimpArgs false
set_option linter.unusedVariables false
set_option maxRecDepth 1000000
namespace Go.Proofs.YtnohnacgefhgnaaGreatDoor
open Go.RowKit

theorem bre_0 : breb 0 1 = true := by decide +kernel
theorem bre_1 : breb 1 1 = true := by decide +kernel
theorem bre_a {c : Nat} (h0 : 0 ≤ c) (hi : c < 2) : brec c = true := by
  by_cases h1 : c < 1
  · exact breb_is bre_0 (by omega) h1
  exact breb_is bre_1 (by omega) hi
end Go.Proofs.YtnohnacgefhgnaaGreatDoor
