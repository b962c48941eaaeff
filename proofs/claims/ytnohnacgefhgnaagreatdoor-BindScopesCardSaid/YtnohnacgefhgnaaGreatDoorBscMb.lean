/- Cases of BindScopes, by running them. -/
import Derived.Test.YtnohnacgefhgnaaGreatDoorBscA
set_option linter.unusedSimpArgs false
set_option linter.unusedVariables false
set_option maxRecDepth 1000000
namespace Go.Proofs.YtnohnacgefhgnaaGreatDoor
open Go.RowKit

theorem bsc_1 : bscb 1 1 = true := by decide +kernel
theorem bsc_b {c : Nat} (h0 : 1 ≤ c) (hi : c < 2) : bscc c = true := by
  exact bscb_is bsc_1 (by omega) hi
end Go.Proofs.YtnohnacgefhgnaaGreatDoor
