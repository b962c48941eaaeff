/- FlowBlocks, in any world. -/
import Derived.Test.YtmlfofmdnbekhaaFwbD
namespace Go.Proofs.Ytmlfofmdnbekhaa
open Go.RowKit
theorem fwb_all (W : World) (n0 : Int) (n1 : Bool) : Calls Try.prog 4 #[.int .i64 n0, .bool n1] W fun e w' => e = .returned (.bool true) ∧ Below W.heap.size W w' :=
  fwb_any W (C := 0) (fun g hg => by cases hg) n0 n1
end Go.Proofs.Ytmlfofmdnbekhaa
