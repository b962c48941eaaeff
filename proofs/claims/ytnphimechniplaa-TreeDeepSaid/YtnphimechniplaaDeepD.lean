/- TreeDeep, both ways. -/
import Derived.Test.YtnphimechniplaaDeepC
namespace Go.Proofs.Ytnphimechniplaa
open Go.RowKit
theorem deep_any (n : Int) (b : Bool) (_ : (Lit.int .i64 n).wf = true) (w : World) : Calls Try.prog 5 #[.int .i64 n, .bool b] w fun e w' => e = .returned (.bool true) ∧ Below w.heap.size w w' := by
  cases b
  · exact deep_exprs w n
  · exact deep_blocks w n
end Go.Proofs.Ytnphimechniplaa
