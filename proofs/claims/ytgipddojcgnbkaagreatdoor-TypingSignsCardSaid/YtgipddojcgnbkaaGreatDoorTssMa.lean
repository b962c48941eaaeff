/- Cases of TypingSigns, by running them. -/
import Derived.Test.YtgipddojcgnbkaaGreatDoorTssA
set_option linter.unusedSimpArgs false
set_option linter.unusedVariables false
set_option maxRecDepth 1000000
namespace Go.Proofs.YtgipddojcgnbkaaGreatDoor
open Go.RowKit

theorem tss_0 : tssb 0 10 = true := by decide +kernel
theorem tss_10 : tssb 10 10 = true := by decide +kernel
theorem tss_20 : tssb 20 10 = true := by decide +kernel
theorem tss_a {c : Nat} (h0 : 0 ≤ c) (hi : c < 30) : tssc c = true := by
  by_cases h10 : c < 10
  · exact tssb_is tss_0 (by omega) h10
  by_cases h20 : c < 20
  · exact tssb_is tss_10 (by omega) h20
  exact tssb_is tss_20 (by omega) hi
end Go.Proofs.YtgipddojcgnbkaaGreatDoor
