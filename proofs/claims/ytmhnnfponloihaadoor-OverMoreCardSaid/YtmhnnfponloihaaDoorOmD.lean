/- Law 9's OverMore. -/
import Derived.Test.YtmhnnfponloihaaDoorOmMa
import Derived.Test.YtmhnnfponloihaaDoorOmMb
import Derived.Test.YtmhnnfponloihaaDoorOmMc
import Derived.Test.YtmhnnfponloihaaDoorOmMd
import Derived.Test.YtmhnnfponloihaaDoorOmMe
import Derived.Test.YtmhnnfponloihaaDoorOmMf
import Derived.Test.YtmhnnfponloihaaDoorOmMg
import Derived.Test.YtmhnnfponloihaaDoorOmMh
import Derived.Test.YtmhnnfponloihaaDoorOmMi
import Derived.Test.YtmhnnfponloihaaDoorOmMj
import Derived.Test.YtmhnnfponloihaaDoorOmMk
import Derived.Test.YtmhnnfponloihaaDoorOmMl
set_option linter.unusedSimpArgs false
set_option linter.unusedVariables false
set_option maxRecDepth 1000000
namespace Go.Proofs.YtmhnnfponloihaaDoor
open Go.RowKit

theorem ovm_case {i j k : Nat} (hi : i < 512) (hj : j < 2) (hk : k < 2) : ovm i j k = true := by
  by_cases h0 : i < 44
  · exact ovm_blk0 (by omega) h0 hj hk
  by_cases h1 : i < 84
  · exact ovm_blk1 (by omega) h1 hj hk
  by_cases h2 : i < 128
  · exact ovm_blk2 (by omega) h2 hj hk
  by_cases h3 : i < 172
  · exact ovm_blk3 (by omega) h3 hj hk
  by_cases h4 : i < 212
  · exact ovm_blk4 (by omega) h4 hj hk
  by_cases h5 : i < 256
  · exact ovm_blk5 (by omega) h5 hj hk
  by_cases h6 : i < 300
  · exact ovm_blk6 (by omega) h6 hj hk
  by_cases h7 : i < 340
  · exact ovm_blk7 (by omega) h7 hj hk
  by_cases h8 : i < 384
  · exact ovm_blk8 (by omega) h8 hj hk
  by_cases h9 : i < 428
  · exact ovm_blk9 (by omega) h9 hj hk
  by_cases h10 : i < 468
  · exact ovm_blk10 (by omega) h10 hj hk
  exact ovm_blk11 (by omega) hi hj hk
theorem ovm_any (W : World) (n0 n1 n2 : Int) : Calls Tryd.prog 5 #[.int .i64 n0, .int .i64 n1, .int .i64 n2] W fun e w' => e = .returned (.bool true) ∧ Below W.heap.size W w' := by
  obtain ⟨i, hi, ri⟩ := rem_rel none_ n0 (m := 512) (by omega)
  obtain ⟨j, hj, rj⟩ := rem_rel none_ n1 (m := 2) (by omega)
  obtain ⟨k, hk, rk⟩ := rem_rel none_ n2 (m := 2) (by omega)
  exact answer ovG_ok (Checked.mixed Tryd.checked) ovX_ok ov_known (l := .cons (.r false 512 i) (.cons (.r false 2 j) (.cons (.r false 2 k) .nil))) (m := [.int .i64 n0, .int .i64 n1, .int .i64 n2]) ⟨_, _, rfl, ri, _, _, rfl, rj, _, _, rfl, rk, rfl⟩ (ovm_case hi hj hk) W
end Go.Proofs.YtmhnnfponloihaaDoor
