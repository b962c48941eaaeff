/- Cases of law 9's OverMore: by running them. -/
import Derived.Test.YtmhnnfponloihaaDoorOmA
set_option linter.unusedSimpArgs false
set_option linter.unusedVariables false
set_option maxRecDepth 1000000
namespace Go.Proofs.YtmhnnfponloihaaDoor
open Go.RowKit

theorem ovm_172 : ovm4 172 = true := by decide +kernel
theorem ovm_176 : ovm4 176 = true := by decide +kernel
theorem ovm_180 : ovm4 180 = true := by decide +kernel
theorem ovm_184 : ovm4 184 = true := by decide +kernel
theorem ovm_188 : ovm4 188 = true := by decide +kernel
theorem ovm_192 : ovm4 192 = true := by decide +kernel
theorem ovm_196 : ovm4 196 = true := by decide +kernel
theorem ovm_200 : ovm4 200 = true := by decide +kernel
theorem ovm_204 : ovm4 204 = true := by decide +kernel
theorem ovm_208 : ovm4 208 = true := by decide +kernel
theorem ovm_blk4 {i j k : Nat} (h0 : 172 ≤ i) (hi : i < 212) (hj : j < 2) (hk : k < 2) : ovm i j k = true := by
  obtain ⟨q, d, hd, hq, rfl⟩ : ∃ q d, d < 4 ∧ (q = 172 ∨ q = 176 ∨ q = 180 ∨ q = 184 ∨ q = 188 ∨ q = 192 ∨ q = 196 ∨ q = 200 ∨ q = 204 ∨ q = 208) ∧ i = q + d := ⟨i / 4 * 4, i % 4, by omega, by omega, by omega⟩
  rcases hq with rfl | rfl | rfl | rfl | rfl | rfl | rfl | rfl | rfl | rfl
  · exact ovm4_is ovm_172 hd hj hk
  · exact ovm4_is ovm_176 hd hj hk
  · exact ovm4_is ovm_180 hd hj hk
  · exact ovm4_is ovm_184 hd hj hk
  · exact ovm4_is ovm_188 hd hj hk
  · exact ovm4_is ovm_192 hd hj hk
  · exact ovm4_is ovm_196 hd hj hk
  · exact ovm4_is ovm_200 hd hj hk
  · exact ovm4_is ovm_204 hd hj hk
  · exact ovm4_is ovm_208 hd hj hk
end Go.Proofs.YtmhnnfponloihaaDoor
