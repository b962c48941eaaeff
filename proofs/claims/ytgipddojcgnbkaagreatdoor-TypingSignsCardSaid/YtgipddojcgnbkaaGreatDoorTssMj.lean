/- Cases of TypingSigns, by running them. -/
import Derived.Test.YtgipddojcgnbkaaGreatDoorTssA
set_option linter.unusedSimpArgs false
set_option linter.unusedVariables false
set_option maxRecDepth 1000000
namespace Go.Proofs.YtgipddojcgnbkaaGreatDoor
open Go.RowKit

theorem tss_270 : tssb 270 10 = true := by decide +kernel
theorem tss_280 : tssb 280 10 = true := by decide +kernel
theorem tss_290 : tssb 290 10 = true := by decide +kernel
theorem tss_j {c : Nat} (h0 : 270 ≤ c) (hi : c < 300) : tssc c = true := by
  by_cases h280 : c < 280
  · exact tssb_is tss_270 (by omega) h280
  by_cases h290 : c < 290
  · exact tssb_is tss_280 (by omega) h290
  exact tssb_is tss_290 (by omega) hi
end Go.Proofs.YtgipddojcgnbkaaGreatDoor
