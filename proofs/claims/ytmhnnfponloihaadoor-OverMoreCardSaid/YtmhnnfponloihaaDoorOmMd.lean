/- Cases of law 9's OverMore: by running them. -/
import Derived.Test.YtmhnnfponloihaaDoorOmA
set_option linter.unusedSimpArgs false
set_option linter.unusedVariables false
set_option maxRecDepth 1000000
namespace Go.Proofs.YtmhnnfponloihaaDoor
open Go.RowKit

theorem ovm_128 : ovm4 128 = true := by decide +kernel
theorem ovm_132 : ovm4 132 = true := by decide +kernel
theorem ovm_136 : ovm4 136 = true := by decide +kernel
theorem ovm_140 : ovm4 140 = true := by decide +kernel
theorem ovm_144 : ovm4 144 = true := by decide +kernel
theorem ovm_148 : ovm4 148 = true := by decide +kernel
theorem ovm_152 : ovm4 152 = true := by decide +kernel
theorem ovm_156 : ovm4 156 = true := by decide +kernel
theorem ovm_160 : ovm4 160 = true := by decide +kernel
theorem ovm_164 : ovm4 164 = true := by decide +kernel
theorem ovm_168 : ovm4 168 = true := by decide +kernel
theorem ovm_blk3 {i j k : Nat} (h0 : 128 ≤ i) (hi : i < 172) (hj : j < 2) (hk : k < 2) : ovm i j k = true := by
  obtain ⟨q, d, hd, hq, rfl⟩ : ∃ q d, d < 4 ∧ (q = 128 ∨ q = 132 ∨ q = 136 ∨ q = 140 ∨ q = 144 ∨ q = 148 ∨ q = 152 ∨ q = 156 ∨ q = 160 ∨ q = 164 ∨ q = 168) ∧ i = q + d := ⟨i / 4 * 4, i % 4, by omega, by omega, by omega⟩
  rcases hq with rfl | rfl | rfl | rfl | rfl | rfl | rfl | rfl | rfl | rfl | rfl
  · exact ovm4_is ovm_128 hd hj hk
  · exact ovm4_is ovm_132 hd hj hk
  · exact ovm4_is ovm_136 hd hj hk
  · exact ovm4_is ovm_140 hd hj hk
  · exact ovm4_is ovm_144 hd hj hk
  · exact ovm4_is ovm_148 hd hj hk
  · exact ovm4_is ovm_152 hd hj hk
  · exact ovm4_is ovm_156 hd hj hk
  · exact ovm4_is ovm_160 hd hj hk
  · exact ovm4_is ovm_164 hd hj hk
  · exact ovm4_is ovm_168 hd hj hk
end Go.Proofs.YtmhnnfponloihaaDoor
