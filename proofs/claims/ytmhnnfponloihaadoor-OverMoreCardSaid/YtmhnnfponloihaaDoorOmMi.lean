/- Cases of law 9's OverMore: by running them. -/
import Derived.Test.YtmhnnfponloihaaDoorOmA
set_option linter.unusedSimpArgs false
set_option linter.unusedVariables false
set_option maxRecDepth 1000000
namespace Go.Proofs.YtmhnnfponloihaaDoor
open Go.RowKit

theorem ovm_340 : ovm4 340 = true := by decide +kernel
theorem ovm_344 : ovm4 344 = true := by decide +kernel
theorem ovm_348 : ovm4 348 = true := by decide +kernel
theorem ovm_352 : ovm4 352 = true := by decide +kernel
theorem ovm_356 : ovm4 356 = true := by decide +kernel
theorem ovm_360 : ovm4 360 = true := by decide +kernel
theorem ovm_364 : ovm4 364 = true := by decide +kernel
theorem ovm_368 : ovm4 368 = true := by decide +kernel
theorem ovm_372 : ovm4 372 = true := by decide +kernel
theorem ovm_376 : ovm4 376 = true := by decide +kernel
theorem ovm_380 : ovm4 380 = true := by decide +kernel
theorem ovm_blk8 {i j k : Nat} (h0 : 340 ≤ i) (hi : i < 384) (hj : j < 2) (hk : k < 2) : ovm i j k = true := by
  obtain ⟨q, d, hd, hq, rfl⟩ : ∃ q d, d < 4 ∧ (q = 340 ∨ q = 344 ∨ q = 348 ∨ q = 352 ∨ q = 356 ∨ q = 360 ∨ q = 364 ∨ q = 368 ∨ q = 372 ∨ q = 376 ∨ q = 380) ∧ i = q + d := ⟨i / 4 * 4, i % 4, by omega, by omega, by omega⟩
  rcases hq with rfl | rfl | rfl | rfl | rfl | rfl | rfl | rfl | rfl | rfl | rfl
  · exact ovm4_is ovm_340 hd hj hk
  · exact ovm4_is ovm_344 hd hj hk
  · exact ovm4_is ovm_348 hd hj hk
  · exact ovm4_is ovm_352 hd hj hk
  · exact ovm4_is ovm_356 hd hj hk
  · exact ovm4_is ovm_360 hd hj hk
  · exact ovm4_is ovm_364 hd hj hk
  · exact ovm4_is ovm_368 hd hj hk
  · exact ovm4_is ovm_372 hd hj hk
  · exact ovm4_is ovm_376 hd hj hk
  · exact ovm4_is ovm_380 hd hj hk
end Go.Proofs.YtmhnnfponloihaaDoor
