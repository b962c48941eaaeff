/- Cases of BindReturns, by running them. -/
import Derived.Test.YtnohnacgefhgnaaGreatDoorBreA
set_option linter.unusedSimpArgs false
set_option linter.unusedVariables false
set_option maxRecDepth 1000000
namespace Go.Proofs.YtnohnacgefhgnaaGreatDoor
open Go.RowKit

theorem bre_6 : breb 6 1 = true := by decide +kernel
theorem bre_7 : breb 7 1 = true := by decide +kernel
theorem bre_d {c : Nat} (h0 : 6 ≤ c) (hi : c < 8) : brec c = true := by
  by_cases h7 : c < 7
  · exact breb_is bre_6 (by omega) h7
  exact breb_is bre_7 (by omega) hi
end Go.Proofs.YtnohnacgefhgnaaGreatDoor
