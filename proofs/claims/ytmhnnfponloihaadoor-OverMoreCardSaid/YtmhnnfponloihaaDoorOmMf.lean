/- Cases of law 9's OverMore: by running them. -/
import Derived.Test.YtmhnnfponloihaaDoorOmA
set_option linter.unusedSimpArgs false
set_option linter.unusedVariables false
set_option maxRecDepth 1000000
namespace Go.Proofs.YtmhnnfponloihaaDoor
open Go.RowKit

theorem ovm_212 : ovm4 212 = true := by decide +kernel
theorem ovm_216 : ovm4 216 = true := by decide +kernel
theorem ovm_220 : ovm4 220 = true := by decide +kernel
theorem ovm_224 : ovm4 224 = true := by decide +kernel
theorem ovm_228 : ovm4 228 = true := by decide +kernel
theorem ovm_232 : ovm4 232 = true := by decide +kernel
theorem ovm_236 : ovm4 236 = true := by decide +kernel
theorem ovm_240 : ovm4 240 = true := by decide +kernel
theorem ovm_244 : ovm4 244 = true := by decide +kernel
theorem ovm_248 : ovm4 248 = true := by decide +kernel
theorem ovm_252 : ovm4 252 = true := by decide +kernel
theorem ovm_blk5 {i j k : Nat} (h0 : 212 ≤ i) (hi : i < 256) (hj : j < 2) (hk : k < 2) : ovm i j k = true := by
  obtain ⟨q, d, hd, hq, rfl⟩ : ∃ q d, d < 4 ∧ (q = 212 ∨ q = 216 ∨ q = 220 ∨ q = 224 ∨ q = 228 ∨ q = 232 ∨ q = 236 ∨ q = 240 ∨ q = 244 ∨ q = 248 ∨ q = 252) ∧ i = q + d := ⟨i / 4 * 4, i % 4, by omega, by omega, by omega⟩
  rcases hq with rfl | rfl | rfl | rfl | rfl | rfl | rfl | rfl | rfl | rfl | rfl
  · exact ovm4_is ovm_212 hd hj hk
  · exact ovm4_is ovm_216 hd hj hk
  · exact ovm4_is ovm_220 hd hj hk
  · exact ovm4_is ovm_224 hd hj hk
  · exact ovm4_is ovm_228 hd hj hk
  · exact ovm4_is ovm_232 hd hj hk
  · exact ovm4_is ovm_236 hd hj hk
  · exact ovm4_is ovm_240 hd hj hk
  · exact ovm4_is ovm_244 hd hj hk
  · exact ovm4_is ovm_248 hd hj hk
  · exact ovm4_is ovm_252 hd hj hk
end Go.Proofs.YtmhnnfponloihaaDoor
