/- Cases of TypingSigns, by running them. -/
import Derived.Test.YtgipddojcgnbkaaGreatDoorTssA
set_option linter.unusedSimpArgs false
set_option linter.unusedVariables false
set_option maxRecDepth 1000000
namespace Go.Proofs.YtgipddojcgnbkaaGreatDoor
open Go.RowKit

theorem tss_240 : tssb 240 10 = true := by decide +kernel
theorem tss_250 : tssb 250 10 = true := by decide +kernel
theorem tss_260 : tssb 260 10 = true := by decide +kernel
theorem tss_i {c : Nat} (h0 : 240 ≤ c) (hi : c < 270) : tssc c = true := by
  by_cases h250 : c < 250
  · exact tssb_is tss_240 (by omega) h250
  by_cases h260 : c < 260
  · exact tssb_is tss_250 (by omega) h260
  exact tssb_is tss_260 (by omega) hi
end Go.Proofs.YtgipddojcgnbkaaGreatDoor
