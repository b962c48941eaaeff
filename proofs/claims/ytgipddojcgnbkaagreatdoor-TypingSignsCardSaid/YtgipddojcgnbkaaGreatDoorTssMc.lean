/- Cases of TypingSigns, by running them. -/
import Derived.Test.YtgipddojcgnbkaaGreatDoorTssA
set_option linter.unusedSimpArgs false
set_option linter.unusedVariables false
set_option maxRecDepth 1000000
namespace Go.Proofs.YtgipddojcgnbkaaGreatDoor
open Go.RowKit

theorem tss_60 : tssb 60 10 = true := by decide +kernel
theorem tss_70 : tssb 70 10 = true := by decide +kernel
theorem tss_80 : tssb 80 10 = true := by decide +kernel
theorem tss_c {c : Nat} (h0 : 60 ≤ c) (hi : c < 90) : tssc c = true := by
  by_cases h70 : c < 70
  · exact tssb_is tss_60 (by omega) h70
  by_cases h80 : c < 80
  · exact tssb_is tss_70 (by omega) h80
  exact tssb_is tss_80 (by omega) hi
end Go.Proofs.YtgipddojcgnbkaaGreatDoor
