/- Cases of BindScopes, by running them. -/
import Derived.Test.YtnohnacgefhgnaaGreatDoorBscA
set_option linter.unusedSimpArgs false
set_option linter.unusedVariables false
set_option maxRecDepth 1000000
namespace Go.Proofs.YtnohnacgefhgnaaGreatDoor
open Go.RowKit

theorem bsc_3 : bscb 3 1 = true := by decide +kernel
theorem bsc_d {c : Nat} (h0 : 3 ≤ c) (hi : c < 4) : bscc c = true := by
  exact bscb_is bsc_3 (by omega) hi
end Go.Proofs.YtnohnacgefhgnaaGreatDoor
