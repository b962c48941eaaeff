/- Cases of law 9's OverMore: by running them. -/
import Derived.Test.YtmhnnfponloihaaDoorOmA
set_option linter.unusedSimpArgs false
set_option linter.unusedVariables false
set_option maxRecDepth 1000000
namespace Go.Proofs.YtmhnnfponloihaaDoor
open Go.RowKit

theorem ovm_428 : ovm4 428 = true := by decide +kernel
theorem ovm_432 : ovm4 432 = true := by decide +kernel
theorem ovm_436 : ovm4 436 = true := by decide +kernel
theorem ovm_440 : ovm4 440 = true := by decide +kernel
theorem ovm_444 : ovm4 444 = true := by decide +kernel
theorem ovm_448 : ovm4 448 = true := by decide +kernel
theorem ovm_452 : ovm4 452 = true := by decide +kernel
theorem ovm_456 : ovm4 456 = true := by decide +kernel
theorem ovm_460 : ovm4 460 = true := by decide +kernel
theorem ovm_464 : ovm4 464 = true := by decide +kernel
theorem ovm_blk10 {i j k : Nat} (h0 : 428 ≤ i) (hi : i < 468) (hj : j < 2) (hk : k < 2) : ovm i j k = true := by
  obtain ⟨q, d, hd, hq, rfl⟩ : ∃ q d, d < 4 ∧ (q = 428 ∨ q = 432 ∨ q = 436 ∨ q = 440 ∨ q = 444 ∨ q = 448 ∨ q = 452 ∨ q = 456 ∨ q = 460 ∨ q = 464) ∧ i = q + d := ⟨i / 4 * 4, i % 4, by omega, by omega, by omega⟩
  rcases hq with rfl | rfl | rfl | rfl | rfl | rfl | rfl | rfl | rfl | rfl
  · exact ovm4_is ovm_428 hd hj hk
  · exact ovm4_is ovm_432 hd hj hk
  · exact ovm4_is ovm_436 hd hj hk
  · exact ovm4_is ovm_440 hd hj hk
  · exact ovm4_is ovm_444 hd hj hk
  · exact ovm4_is ovm_448 hd hj hk
  · exact ovm4_is ovm_452 hd hj hk
  · exact ovm4_is ovm_456 hd hj hk
  · exact ovm4_is ovm_460 hd hj hk
  · exact ovm4_is ovm_464 hd hj hk
end Go.Proofs.YtmhnnfponloihaaDoor
