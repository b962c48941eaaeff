/- Cases of TypingSigns, by running them. -/
import Derived.Test.YtgipddojcgnbkaaGreatDoorTssA
set_option linter.unusedSimpArgs false
set_option linter.unusedVariables false
set_option maxRecDepth 1000000
namespace Go.Proofs.YtgipddojcgnbkaaGreatDoor
open Go.RowKit

theorem tss_150 : tssb 150 10 = true := by decide +kernel
theorem tss_160 : tssb 160 10 = true := by decide +kernel
theorem tss_170 : tssb 170 10 = true := by decide +kernel
theorem tss_f {c : Nat} (h0 : 150 ≤ c) (hi : c < 180) : tssc c = true := by
  by_cases h160 : c < 160
  · exact tssb_is tss_150 (by omega) h160
  by_cases h170 : c < 170
  · exact tssb_is tss_160 (by omega) h170
  exact tssb_is tss_170 (by omega) hi
end Go.Proofs.YtgipddojcgnbkaaGreatDoor
