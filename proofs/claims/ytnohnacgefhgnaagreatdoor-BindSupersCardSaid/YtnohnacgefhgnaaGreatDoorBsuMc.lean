/- Cases of BindSupers, by running them. -/
import Derived.Test.YtnohnacgefhgnaaGreatDoorBsuA
set_option linter.unusedSimpArgs false
set_option linter.unusedVariables false
set_option maxRecDepth 1000000
namespace Go.Proofs.YtnohnacgefhgnaaGreatDoor
open Go.RowKit

theorem bsu_8 : bsub 8 1 = true := by decide +kernel
theorem bsu_9 : bsub 9 1 = true := by decide +kernel
theorem bsu_10 : bsub 10 1 = true := by decide +kernel
theorem bsu_11 : bsub 11 1 = true := by decide +kernel
theorem bsu_c {c : Nat} (h0 : 8 ≤ c) (hi : c < 12) : bsuc c = true := by
  by_cases h9 : c < 9
  · exact bsub_is bsu_8 (by omega) h9
  by_cases h10 : c < 10
  · exact bsub_is bsu_9 (by omega) h10
  by_cases h11 : c < 11
  · exact bsub_is bsu_10 (by omega) h11
  exact bsub_is bsu_11 (by omega) hi
end Go.Proofs.YtnohnacgefhgnaaGreatDoor
