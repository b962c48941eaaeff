/- Cases of BindReturns, by running them. -/
import Derived.Test.YtnohnacgefhgnaaGreatDoorBreA
set_option linter.unusedSimpArgs false
set_option linter.unusedVariables false
set_option maxRecDepth 1000000
namespace Go.Proofs.YtnohnacgefhgnaaGreatDoor
open Go.RowKit

theorem bre_4 : breb 4 1 = true := by decide +kernel
theorem bre_5 : breb 5 1 = true := by decide +kernel
theorem bre_c {c : Nat} (h0 : 4 ≤ c) (hi : c < 6) : brec c = true := by
  by_cases h5 : c < 5
  · exact breb_is bre_4 (by omega) h5
  exact breb_is bre_5 (by omega) hi
end Go.Proofs.YtnohnacgefhgnaaGreatDoor
