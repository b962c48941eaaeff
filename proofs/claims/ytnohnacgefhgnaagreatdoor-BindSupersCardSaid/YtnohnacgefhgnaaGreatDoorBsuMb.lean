/- Cases of BindSupers, by running them. -/
import Derived.Test.YtnohnacgefhgnaaGreatDoorBsuA
set_option linter.unusedSimpArgs false
set_option linter.unusedVariables false
set_option maxRecDepth 1000000
namespace Go.Proofs.YtnohnacgefhgnaaGreatDoor
open Go.RowKit

theorem bsu_4 : bsub 4 1 = true := by decide +kernel
theorem bsu_5 : bsub 5 1 = true := by decide +kernel
theorem bsu_6 : bsub 6 1 = true := by decide +kernel
theorem bsu_7 : bsub 7 1 = true := by decide +kernel
theorem bsu_b {c : Nat} (h0 : 4 ≤ c) (hi : c < 8) : bsuc c = true := by
  by_cases h5 : c < 5
  · exact bsub_is bsu_4 (by omega) h5
  by_cases h6 : c < 6
  · exact bsub_is bsu_5 (by omega) h6
  by_cases h7 : c < 7
  · exact bsub_is bsu_6 (by omega) h7
  exact bsub_is bsu_7 (by omega) hi
end Go.Proofs.YtnohnacgefhgnaaGreatDoor
