/- Cases of BindSupers, by running them. -/
import Derived.Test.YtnohnacgefhgnaaGreatDoorBsuA
set_option linter.unusedSimpArgs false
set_option linter.unusedVariables false
set_option maxRecDepth 1000000
namespace Go.Proofs.YtnohnacgefhgnaaGreatDoor
open Go.RowKit

theorem bsu_0 : bsub 0 1 = true := by decide +kernel
theorem bsu_1 : bsub 1 1 = true := by decide +kernel
theorem bsu_2 : bsub 2 1 = true := by decide +kernel
theorem bsu_3 : bsub 3 1 = true := by decide +kernel
theorem bsu_a {c : Nat} (h0 : 0 ≤ c) (hi : c < 4) : bsuc c = true := by
  by_cases h1 : c < 1
  · exact bsub_is bsu_0 (by omega) h1
  by_cases h2 : c < 2
  · exact bsub_is bsu_1 (by omega) h2
  by_cases h3 : c < 3
  · exact bsub_is bsu_2 (by omega) h3
  exact bsub_is bsu_3 (by omega) hi
end Go.Proofs.YtnohnacgefhgnaaGreatDoor
