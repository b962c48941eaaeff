/- Cases of BindSupers, by running them. -/
import Derived.Test.YtnohnacgefhgnaaGreatDoorBsuA
set_option linter.unusedSimpArgs false
set_option linter.unusedVariables false
set_option maxRecDepth 1000000
namespace Go.Proofs.YtnohnacgefhgnaaGreatDoor
open Go.RowKit

theorem bsu_12 : bsub 12 1 = true := by decide +kernel
theorem bsu_13 : bsub 13 1 = true := by decide +kernel
theorem bsu_14 : bsub 14 1 = true := by decide +kernel
theorem bsu_15 : bsub 15 1 = true := by decide +kernel
theorem bsu_d {c : Nat} (h0 : 12 ≤ c) (hi : c < 16) : bsuc c = true := by
  by_cases h13 : c < 13
  · exact bsub_is bsu_12 (by omega) h13
  by_cases h14 : c < 14
  · exact bsub_is bsu_13 (by omega) h14
  by_cases h15 : c < 15
  · exact bsub_is bsu_14 (by omega) h15
  exact bsub_is bsu_15 (by omega) hi
end Go.Proofs.YtnohnacgefhgnaaGreatDoor
