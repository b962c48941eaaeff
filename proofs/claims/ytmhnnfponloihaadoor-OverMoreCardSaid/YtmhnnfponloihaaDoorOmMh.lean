/- Cases of law 9's OverMore: by running them. -/
import Derived.Test.YtmhnnfponloihaaDoorOmA
set_option linter.unusedSimpArgs false
set_option linter.unusedVariables false
set_option maxRecDepth 1000000
namespace Go.Proofs.YtmhnnfponloihaaDoor
open Go.RowKit

theorem ovm_300 : ovm4 300 = true := by decide +kernel
theorem ovm_304 : ovm4 304 = true := by decide +kernel
theorem ovm_308 : ovm4 308 = true := by decide +kernel
theorem ovm_312 : ovm4 312 = true := by decide +kernel
theorem ovm_316 : ovm4 316 = true := by decide +kernel
theorem ovm_320 : ovm4 320 = true := by decide +kernel
theorem ovm_324 : ovm4 324 = true := by decide +kernel
theorem ovm_328 : ovm4 328 = true := by decide +kernel
theorem ovm_332 : ovm4 332 = true := by decide +kernel
theorem ovm_336 : ovm4 336 = true := by decide +kernel
theorem ovm_blk7 {i j k : Nat} (h0 : 300 ≤ i) (hi : i < 340) (hj : j < 2) (hk : k < 2) : ovm i j k = true := by
  obtain ⟨q, d, hd, hq, rfl⟩ : ∃ q d, d < 4 ∧ (q = 300 ∨ q = 304 ∨ q = 308 ∨ q = 312 ∨ q = 316 ∨ q = 320 ∨ q = 324 ∨ q = 328 ∨ q = 332 ∨ q = 336) ∧ i = q + d := ⟨i / 4 * 4, i % 4, by omega, by omega, by omega⟩
  rcases hq with rfl | rfl | rfl | rfl | rfl | rfl | rfl | rfl | rfl | rfl
  · exact ovm4_is ovm_300 hd hj hk
  · exact ovm4_is ovm_304 hd hj hk
  · exact ovm4_is ovm_308 hd hj hk
  · exact ovm4_is ovm_312 hd hj hk
  · exact ovm4_is ovm_316 hd hj hk
  · exact ovm4_is ovm_320 hd hj hk
  · exact ovm4_is ovm_324 hd hj hk
  · exact ovm4_is ovm_328 hd hj hk
  · exact ovm4_is ovm_332 hd hj hk
  · exact ovm4_is ovm_336 hd hj hk
end Go.Proofs.YtmhnnfponloihaaDoor
