/- Cases of FlowBlocks, by running them. -/
import Derived.Test.YtmlfofmdnbekhaaFwbA
set_option linter.unusedSimpArgs false
set_option linter.unusedVariables false
set_option maxRecDepth 1000000
namespace Go.Proofs.Ytmlfofmdnbekhaa
open Go.RowKit

theorem fwb_0 : fwbb 0 6 = true := by decide +kernel
theorem fwb_6 : fwbb 6 6 = true := by decide +kernel
theorem fwb_12 : fwbb 12 6 = true := by decide +kernel
theorem fwb_a {c : Nat} (h0 : 0 ≤ c) (hi : c < 18) : fwbc c = true := by
  by_cases h6 : c < 6
  · exact fwbb_is fwb_0 (by omega) h6
  by_cases h12 : c < 12
  · exact fwbb_is fwb_6 (by omega) h12
  exact fwbb_is fwb_12 (by omega) hi
end Go.Proofs.Ytmlfofmdnbekhaa
