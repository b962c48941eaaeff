/- Cases of BindScopes, by running them. -/
import Derived.Test.YtnohnacgefhgnaaGreatDoorBscA
set_option linter.unusedSimpArgs false
set_option linter.unusedVariables false
set_option maxRecDepth 1000000
namespace Go.Proofs.YtnohnacgefhgnaaGreatDoor
open Go.RowKit

theorem bsc_2 : bscb 2 1 = true := by decide +kernel
theorem bsc_c {c : Nat} (h0 : 2 ≤ c) (hi : c < 3) : bscc c = true := by
  exact bscb_is bsc_2 (by omega) hi
end Go.Proofs.YtnohnacgefhgnaaGreatDoor
