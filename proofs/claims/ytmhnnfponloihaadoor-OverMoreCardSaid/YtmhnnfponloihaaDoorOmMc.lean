/- Cases of law 9's OverMore: by running them. -/
import Derived.Test.YtmhnnfponloihaaDoorOmA
set_option linter.unusedSimpArgs false
set_option linter.unusedVariables false
set_option maxRecDepth 1000000
namespace Go.Proofs.YtmhnnfponloihaaDoor
open Go.RowKit

theorem ovm_84 : ovm4 84 = true := by decide +kernel
theorem ovm_88 : ovm4 88 = true := by decide +kernel
theorem ovm_92 : ovm4 92 = true := by decide +kernel
theorem ovm_96 : ovm4 96 = true := by decide +kernel
theorem ovm_100 : ovm4 100 = true := by decide +kernel
theorem ovm_104 : ovm4 104 = true := by decide +kernel
theorem ovm_108 : ovm4 108 = true := by decide +kernel
theorem ovm_112 : ovm4 112 = true := by decide +kernel
theorem ovm_116 : ovm4 116 = true := by decide +kernel
theorem ovm_120 : ovm4 120 = true := by decide +kernel
theorem ovm_124 : ovm4 124 = true := by decide +kernel
theorem ovm_blk2 {i j k : Nat} (h0 : 84 ≤ i) (hi : i < 128) (hj : j < 2) (hk : k < 2) : ovm i j k = true := by
  obtain ⟨q, d, hd, hq, rfl⟩ : ∃ q d, d < 4 ∧ (q = 84 ∨ q = 88 ∨ q = 92 ∨ q = 96 ∨ q = 100 ∨ q = 104 ∨ q = 108 ∨ q = 112 ∨ q = 116 ∨ q = 120 ∨ q = 124) ∧ i = q + d := ⟨i / 4 * 4, i % 4, by omega, by omega, by omega⟩
  rcases hq with rfl | rfl | rfl | rfl | rfl | rfl | rfl | rfl | rfl | rfl | rfl
  · exact ovm4_is ovm_84 hd hj hk
  · exact ovm4_is ovm_88 hd hj hk
  · exact ovm4_is ovm_92 hd hj hk
  · exact ovm4_is ovm_96 hd hj hk
  · exact ovm4_is ovm_100 hd hj hk
  · exact ovm4_is ovm_104 hd hj hk
  · exact ovm4_is ovm_108 hd hj hk
  · exact ovm4_is ovm_112 hd hj hk
  · exact ovm4_is ovm_116 hd hj hk
  · exact ovm4_is ovm_120 hd hj hk
  · exact ovm4_is ovm_124 hd hj hk
end Go.Proofs.YtmhnnfponloihaaDoor
