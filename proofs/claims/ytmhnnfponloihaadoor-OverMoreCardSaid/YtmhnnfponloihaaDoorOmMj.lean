/- Cases of law 9's OverMore: by running them. -/
import Derived.Test.YtmhnnfponloihaaDoorOmA
set_option linter.unusedSimpArgs false
set_option linter.unusedVariables false
set_option maxRecDepth 1000000
namespace Go.Proofs.YtmhnnfponloihaaDoor
open Go.RowKit

theorem ovm_384 : ovm4 384 = true := by decide +kernel
theorem ovm_388 : ovm4 388 = true := by decide +kernel
theorem ovm_392 : ovm4 392 = true := by decide +kernel
theorem ovm_396 : ovm4 396 = true := by decide +kernel
theorem ovm_400 : ovm4 400 = true := by decide +kernel
theorem ovm_404 : ovm4 404 = true := by decide +kernel
theorem ovm_408 : ovm4 408 = true := by decide +kernel
theorem ovm_412 : ovm4 412 = true := by decide +kernel
theorem ovm_416 : ovm4 416 = true := by decide +kernel
theorem ovm_420 : ovm4 420 = true := by decide +kernel
theorem ovm_424 : ovm4 424 = true := by decide +kernel
theorem ovm_blk9 {i j k : Nat} (h0 : 384 ≤ i) (hi : i < 428) (hj : j < 2) (hk : k < 2) : ovm i j k = true := by
  obtain ⟨q, d, hd, hq, rfl⟩ : ∃ q d, d < 4 ∧ (q = 384 ∨ q = 388 ∨ q = 392 ∨ q = 396 ∨ q = 400 ∨ q = 404 ∨ q = 408 ∨ q = 412 ∨ q = 416 ∨ q = 420 ∨ q = 424) ∧ i = q + d := ⟨i / 4 * 4, i % 4, by omega, by omega, by omega⟩
  rcases hq with rfl | rfl | rfl | rfl | rfl | rfl | rfl | rfl | rfl | rfl | rfl
  · exact ovm4_is ovm_384 hd hj hk
  · exact ovm4_is ovm_388 hd hj hk
  · exact ovm4_is ovm_392 hd hj hk
  · exact ovm4_is ovm_396 hd hj hk
  · exact ovm4_is ovm_400 hd hj hk
  · exact ovm4_is ovm_404 hd hj hk
  · exact ovm4_is ovm_408 hd hj hk
  · exact ovm4_is ovm_412 hd hj hk
  · exact ovm4_is ovm_416 hd hj hk
  · exact ovm4_is ovm_420 hd hj hk
  · exact ovm4_is ovm_424 hd hj hk
end Go.Proofs.YtmhnnfponloihaaDoor
