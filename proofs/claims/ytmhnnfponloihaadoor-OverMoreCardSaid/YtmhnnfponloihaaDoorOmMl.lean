/- Cases of law 9's OverMore: by running them. -/
import Derived.Test.YtmhnnfponloihaaDoorOmA
set_option linter.unusedSimpArgs false
set_option linter.unusedVariables false
set_option maxRecDepth 1000000
namespace Go.Proofs.YtmhnnfponloihaaDoor
open Go.RowKit

theorem ovm_468 : ovm4 468 = true := by decide +kernel
theorem ovm_472 : ovm4 472 = true := by decide +kernel
theorem ovm_476 : ovm4 476 = true := by decide +kernel
theorem ovm_480 : ovm4 480 = true := by decide +kernel
theorem ovm_484 : ovm4 484 = true := by decide +kernel
theorem ovm_488 : ovm4 488 = true := by decide +kernel
theorem ovm_492 : ovm4 492 = true := by decide +kernel
theorem ovm_496 : ovm4 496 = true := by decide +kernel
theorem ovm_500 : ovm4 500 = true := by decide +kernel
theorem ovm_504 : ovm4 504 = true := by decide +kernel
theorem ovm_508 : ovm4 508 = true := by decide +kernel
theorem ovm_blk11 {i j k : Nat} (h0 : 468 ≤ i) (hi : i < 512) (hj : j < 2) (hk : k < 2) : ovm i j k = true := by
  obtain ⟨q, d, hd, hq, rfl⟩ : ∃ q d, d < 4 ∧ (q = 468 ∨ q = 472 ∨ q = 476 ∨ q = 480 ∨ q = 484 ∨ q = 488 ∨ q = 492 ∨ q = 496 ∨ q = 500 ∨ q = 504 ∨ q = 508) ∧ i = q + d := ⟨i / 4 * 4, i % 4, by omega, by omega, by omega⟩
  rcases hq with rfl | rfl | rfl | rfl | rfl | rfl | rfl | rfl | rfl | rfl | rfl
  · exact ovm4_is ovm_468 hd hj hk
  · exact ovm4_is ovm_472 hd hj hk
  · exact ovm4_is ovm_476 hd hj hk
  · exact ovm4_is ovm_480 hd hj hk
  · exact ovm4_is ovm_484 hd hj hk
  · exact ovm4_is ovm_488 hd hj hk
  · exact ovm4_is ovm_492 hd hj hk
  · exact ovm4_is ovm_496 hd hj hk
  · exact ovm4_is ovm_500 hd hj hk
  · exact ovm4_is ovm_504 hd hj hk
  · exact ovm4_is ovm_508 hd hj hk
end Go.Proofs.YtmhnnfponloihaaDoor
