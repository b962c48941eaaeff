/- Cases of law 9's OverMore: by running them. -/
import Derived.Test.YtmhnnfponloihaaDoorOmA
set_option linter.unusedSimpArgs false
set_option linter.unusedVariables false
set_option maxRecDepth 1000000
namespace Go.Proofs.YtmhnnfponloihaaDoor
open Go.RowKit

theorem ovm_256 : ovm4 256 = true := by decide +kernel
theorem ovm_260 : ovm4 260 = true := by decide +kernel
theorem ovm_264 : ovm4 264 = true := by decide +kernel
theorem ovm_268 : ovm4 268 = true := by decide +kernel
theorem ovm_272 : ovm4 272 = true := by decide +kernel
theorem ovm_276 : ovm4 276 = true := by decide +kernel
theorem ovm_280 : ovm4 280 = true := by decide +kernel
theorem ovm_284 : ovm4 284 = true := by decide +kernel
theorem ovm_288 : ovm4 288 = true := by decide +kernel
theorem ovm_292 : ovm4 292 = true := by decide +kernel
theorem ovm_296 : ovm4 296 = true := by decide +kernel
theorem ovm_blk6 {i j k : Nat} (h0 : 256 ≤ i) (hi : i < 300) (hj : j < 2) (hk : k < 2) : ovm i j k = true := by
  obtain ⟨q, d, hd, hq, rfl⟩ : ∃ q d, d < 4 ∧ (q = 256 ∨ q = 260 ∨ q = 264 ∨ q = 268 ∨ q = 272 ∨ q = 276 ∨ q = 280 ∨ q = 284 ∨ q = 288 ∨ q = 292 ∨ q = 296) ∧ i = q + d := ⟨i / 4 * 4, i % 4, by omega, by omega, by omega⟩
  rcases hq with rfl | rfl | rfl | rfl | rfl | rfl | rfl | rfl | rfl | rfl | rfl
  · exact ovm4_is ovm_256 hd hj hk
  · exact ovm4_is ovm_260 hd hj hk
  · exact ovm4_is ovm_264 hd hj hk
  · exact ovm4_is ovm_268 hd hj hk
  · exact ovm4_is ovm_272 hd hj hk
  · exact ovm4_is ovm_276 hd hj hk
  · exact ovm4_is ovm_280 hd hj hk
  · exact ovm4_is ovm_284 hd hj hk
  · exact ovm4_is ovm_288 hd hj hk
  · exact ovm4_is ovm_292 hd hj hk
  · exact ovm4_is ovm_296 hd hj hk
end Go.Proofs.YtmhnnfponloihaaDoor
