/- Cases of TypingSigns, by running them. -/
import Derived.Test.YtgipddojcgnbkaaGreatDoorTssA
set_option linter.unusedSimpArgs false
set_option linter.unusedVariables false
set_option maxRecDepth 1000000
namespace Go.Proofs.YtgipddojcgnbkaaGreatDoor
open Go.RowKit

theorem tss_180 : tssb 180 10 = true := by decide +kernel
theorem tss_190 : tssb 190 10 = true := by decide +kernel
theorem tss_200 : tssb 200 10 = true := by decide +kernel
theorem tss_g {c : Nat} (h0 : 180 ≤ c) (hi : c < 210) : tssc c = true := by
  by_cases h190 : c < 190
  · exact tssb_is tss_180 (by omega) h190
  by_cases h200 : c < 200
  · exact tssb_is tss_190 (by omega) h200
  exact tssb_is tss_200 (by omega) hi
end Go.Proofs.YtgipddojcgnbkaaGreatDoor
