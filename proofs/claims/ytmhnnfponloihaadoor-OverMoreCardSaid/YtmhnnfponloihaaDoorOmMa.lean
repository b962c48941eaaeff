/- Cases of law 9's OverMore: by running them. -/
import Derived.Test.YtmhnnfponloihaaDoorOmA
set_option linter.unusedSimpArgs false
set_option linter.unusedVariables false
set_option maxRecDepth 1000000
namespace Go.Proofs.YtmhnnfponloihaaDoor
open Go.RowKit

theorem ovm_0 : ovm4 0 = true := by decide +kernel
theorem ovm_4 : ovm4 4 = true := by decide +kernel
theorem ovm_8 : ovm4 8 = true := by decide +kernel
theorem ovm_12 : ovm4 12 = true := by decide +kernel
theorem ovm_16 : ovm4 16 = true := by decide +kernel
theorem ovm_20 : ovm4 20 = true := by decide +kernel
theorem ovm_24 : ovm4 24 = true := by decide +kernel
theorem ovm_28 : ovm4 28 = true := by decide +kernel
theorem ovm_32 : ovm4 32 = true := by decide +kernel
theorem ovm_36 : ovm4 36 = true := by decide +kernel
theorem ovm_40 : ovm4 40 = true := by decide +kernel
theorem ovm_blk0 {i j k : Nat} (h0 : 0 ≤ i) (hi : i < 44) (hj : j < 2) (hk : k < 2) : ovm i j k = true := by
  obtain ⟨q, d, hd, hq, rfl⟩ : ∃ q d, d < 4 ∧ (q = 0 ∨ q = 4 ∨ q = 8 ∨ q = 12 ∨ q = 16 ∨ q = 20 ∨ q = 24 ∨ q = 28 ∨ q = 32 ∨ q = 36 ∨ q = 40) ∧ i = q + d := ⟨i / 4 * 4, i % 4, by omega, by omega, by omega⟩
  rcases hq with rfl | rfl | rfl | rfl | rfl | rfl | rfl | rfl | rfl | rfl | rfl
  · exact ovm4_is ovm_0 hd hj hk
  · exact ovm4_is ovm_4 hd hj hk
  · exact ovm4_is ovm_8 hd hj hk
  · exact ovm4_is ovm_12 hd hj hk
  · exact ovm4_is ovm_16 hd hj hk
  · exact ovm4_is ovm_20 hd hj hk
  · exact ovm4_is ovm_24 hd hj hk
  · exact ovm4_is ovm_28 hd hj hk
  · exact ovm4_is ovm_32 hd hj hk
  · exact ovm4_is ovm_36 hd hj hk
  · exact ovm4_is ovm_40 hd hj hk
end Go.Proofs.YtmhnnfponloihaaDoor
