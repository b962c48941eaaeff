/- Cases of law 9's OverMore: by running them. -/
import Derived.Test.YtmhnnfponloihaaDoorOmA
set_option linter.unusedSimpArgs false
set_option linter.unusedVariables false
set_option maxRecDepth 1000000
namespace Go.Proofs.YtmhnnfponloihaaDoor
open Go.RowKit

theorem ovm_44 : ovm4 44 = true := by decide +kernel
theorem ovm_48 : ovm4 48 = true := by decide +kernel
theorem ovm_52 : ovm4 52 = true := by decide +kernel
theorem ovm_56 : ovm4 56 = true := by decide +kernel
theorem ovm_60 : ovm4 60 = true := by decide +kernel
theorem ovm_64 : ovm4 64 = true := by decide +kernel
theorem ovm_68 : ovm4 68 = true := by decide +kernel
theorem ovm_72 : ovm4 72 = true := by decide +kernel
theorem ovm_76 : ovm4 76 = true := by decide +kernel
theorem ovm_80 : ovm4 80 = true := by decide +kernel
theorem ovm_blk1 {i j k : Nat} (h0 : 44 ≤ i) (hi : i < 84) (hj : j < 2) (hk : k < 2) : ovm i j k = true := by
  obtain ⟨q, d, hd, hq, rfl⟩ : ∃ q d, d < 4 ∧ (q = 44 ∨ q = 48 ∨ q = 52 ∨ q = 56 ∨ q = 60 ∨ q = 64 ∨ q = 68 ∨ q = 72 ∨ q = 76 ∨ q = 80) ∧ i = q + d := ⟨i / 4 * 4, i % 4, by omega, by omega, by omega⟩
  rcases hq with rfl | rfl | rfl | rfl | rfl | rfl | rfl | rfl | rfl | rfl
  · exact ovm4_is ovm_44 hd hj hk
  · exact ovm4_is ovm_48 hd hj hk
  · exact ovm4_is ovm_52 hd hj hk
  · exact ovm4_is ovm_56 hd hj hk
  · exact ovm4_is ovm_60 hd hj hk
  · exact ovm4_is ovm_64 hd hj hk
  · exact ovm4_is ovm_68 hd hj hk
  · exact ovm4_is ovm_72 hd hj hk
  · exact ovm4_is ovm_76 hd hj hk
  · exact ovm4_is ovm_80 hd hj hk
end Go.Proofs.YtmhnnfponloihaaDoor
