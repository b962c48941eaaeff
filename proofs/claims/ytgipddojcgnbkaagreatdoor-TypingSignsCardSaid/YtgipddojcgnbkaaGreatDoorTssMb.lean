/- Cases of TypingSigns, by running them. -/
import Derived.Test.YtgipddojcgnbkaaGreatDoorTssA
set_option linter.unusedSimpArgs false
set_option linter.unusedVariables false
set_option maxRecDepth 1000000
namespace Go.Proofs.YtgipddojcgnbkaaGreatDoor
open Go.RowKit

theorem tss_30 : tssb 30 10 = true := by decide +kernel
theorem tss_40 : tssb 40 10 = true := by decide +kernel
theorem tss_50 : tssb 50 10 = true := by decide +kernel
theorem tss_b {c : Nat} (h0 : 30 ≤ c) (hi : c < 60) : tssc c = true := by
  by_cases h40 : c < 40
  · exact tssb_is tss_30 (by omega) h40
  by_cases h50 : c < 50
  · exact tssb_is tss_40 (by omega) h50
  exact tssb_is tss_50 (by omega) hi
end Go.Proofs.YtgipddojcgnbkaaGreatDoor
