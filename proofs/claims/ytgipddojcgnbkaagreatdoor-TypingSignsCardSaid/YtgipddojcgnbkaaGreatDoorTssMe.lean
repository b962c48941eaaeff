/- Cases of TypingSigns, by running them. -/
import Derived.Test.YtgipddojcgnbkaaGreatDoorTssA
set_option linter.unusedSimpArgs false
set_option linter.unusedVariables false
set_option maxRecDepth 1000000
namespace Go.Proofs.YtgipddojcgnbkaaGreatDoor
open Go.RowKit

theorem tss_120 : tssb 120 10 = true := by decide +kernel
theorem tss_130 : tssb 130 10 = true := by decide +kernel
theorem tss_140 : tssb 140 10 = true := by decide +kernel
theorem tss_e {c : Nat} (h0 : 120 ≤ c) (hi : c < 150) : tssc c = true := by
  by_cases h130 : c < 130
  · exact tssb_is tss_120 (by omega) h130
  by_cases h140 : c < 140
  · exact tssb_is tss_130 (by omega) h140
  exact tssb_is tss_140 (by omega) hi
end Go.Proofs.YtgipddojcgnbkaaGreatDoor
