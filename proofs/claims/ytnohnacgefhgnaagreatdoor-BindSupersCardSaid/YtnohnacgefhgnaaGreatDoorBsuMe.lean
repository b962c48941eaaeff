/- Cases of BindSupers, by running them. -/
import Derived.Test.YtnohnacgefhgnaaGreatDoorBsuA
set_option linter.unusedSimpArgs false
set_option linter.unusedVariables false
set_option maxRecDepth 1000000
namespace Go.Proofs.YtnohnacgefhgnaaGreatDoor
open Go.RowKit

theorem bsu_16 : bsub 16 1 = true := by decide +kernel
theorem bsu_17 : bsub 17 1 = true := by decide +kernel
theorem bsu_18 : bsub 18 1 = true := by decide +kernel
theorem bsu_19 : bsub 19 1 = true := by decide +kernel
theorem bsu_e {c : Nat} (h0 : 16 ≤ c) (hi : c < 20) : bsuc c = true := by
  by_cases h17 : c < 17
  · exact bsub_is bsu_16 (by omega) h17
  by_cases h18 : c < 18
  · exact bsub_is bsu_17 (by omega) h18
  by_cases h19 : c < 19
  · exact bsub_is bsu_18 (by omega) h19
  exact bsub_is bsu_19 (by omega) hi
end Go.Proofs.YtnohnacgefhgnaaGreatDoor
