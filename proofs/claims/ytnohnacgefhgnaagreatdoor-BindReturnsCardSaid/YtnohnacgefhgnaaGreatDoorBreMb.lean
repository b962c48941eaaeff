/- Cases of BindReturns, by running them. -/
import Derived.Test.YtnohnacgefhgnaaGreatDoorBreA
set_option linter.unusedSimpArgs false
set_option linter.unusedVariables false
set_option maxRecDepth 1000000
namespace Go.Proofs.YtnohnacgefhgnaaGreatDoor
open Go.RowKit

theorem bre_2 : breb 2 1 = true := by decide +kernel
theorem bre_3 : breb 3 1 = true := by decide +kernel
theorem bre_b {c : Nat} (h0 : 2 ≤ c) (hi : c < 4) : brec c = true := by
  by_cases h3 : c < 3
  · exact breb_is bre_2 (by omega) h3
  exact breb_is bre_3 (by omega) hi
end Go.Proofs.YtnohnacgefhgnaaGreatDoor
