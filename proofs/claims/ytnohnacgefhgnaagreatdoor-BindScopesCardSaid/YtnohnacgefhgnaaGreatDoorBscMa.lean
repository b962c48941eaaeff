/- Cases of BindScopes, by running them. -/
import Derived.Test.YtnohnacgefhgnaaGreatDoorBscA
set_option linter.unusedSimpArgs false
set_option linter.unusedVariables false
set_option maxRecDepth 1000000
namespace Go.Proofs.YtnohnacgefhgnaaGreatDoor
open Go.RowKit

theorem bsc_0 : bscb 0 1 = true := by decide +kernel
theorem bsc_a {c : Nat} (h0 : 0 ≤ c) (hi : c < 1) : bscc c = true := by
  exact bscb_is bsc_0 (by omega) hi
end Go.Proofs.YtnohnacgefhgnaaGreatDoor
