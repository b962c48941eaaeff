/- Cases of TypingSigns, by running them. -/
import Derived.Test.YtgipddojcgnbkaaGreatDoorTssA
set_option linter.unusedSimpArgs false
set_option linter.unusedVariables false
set_option maxRecDepth 1000000
namespace Go.Proofs.YtgipddojcgnbkaaGreatDoor
open Go.RowKit

theorem tss_210 : tssb 210 10 = true := by decide +kernel
theorem tss_220 : tssb 220 10 = true := by decide +kernel
theorem tss_230 : tssb 230 10 = true := by decide +kernel
theorem tss_h {c : Nat} (h0 : 210 ≤ c) (hi : c < 240) : tssc c = true := by
  by_cases h220 : c < 220
  · exact tssb_is tss_210 (by omega) h220
  by_cases h230 : c < 230
  · exact tssb_is tss_220 (by omega) h230
  exact tssb_is tss_230 (by omega) hi
end Go.Proofs.YtgipddojcgnbkaaGreatDoor
