/- Cases of TypingSigns, by running them. -/
import Derived.Test.YtgipddojcgnbkaaGreatDoorTssA
set_option linter.unusedSimpArgs false
set_option linter.unusedVariables false
set_option maxRecDepth 1000000
namespace Go.Proofs.YtgipddojcgnbkaaGreatDoor
open Go.RowKit

theorem tss_90 : tssb 90 10 = true := by decide +kernel
theorem tss_100 : tssb 100 10 = true := by decide +kernel
theorem tss_110 : tssb 110 10 = true := by decide +kernel
theorem tss_d {c : Nat} (h0 : 90 ≤ c) (hi : c < 120) : tssc c = true := by
  by_cases h100 : c < 100
  · exact tssb_is tss_90 (by omega) h100
  by_cases h110 : c < 110
  · exact tssb_is tss_100 (by omega) h110
  exact tssb_is tss_110 (by omega) hi
end Go.Proofs.YtgipddojcgnbkaaGreatDoor
