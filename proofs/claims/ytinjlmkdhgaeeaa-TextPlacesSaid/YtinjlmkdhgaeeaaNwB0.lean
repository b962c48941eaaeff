/- Numbers of 32 bits: what holds of all. -/
import Derived.Test.YtinjlmkdhgaeeaaProg
import Derived.Test.YtinjlmkdhgaeeaaNwA
import Derived.Below
import Derived.Lib.Hide
set_option linter.unusedSimpArgs false
set_option linter.unusedVariables false
namespace Go.Proofs.Ytinjlmkdhgaeeaa
open Go.RowKit

def i32 (a : Int) : Prop := -2147483648 ≤ a ∧ a ≤ 2147483647
theorem w32_eq (x : Int) : wrap32 x = (x + 2147483648) % 4294967296 - 2147483648 := by unfold wrap32; omega
theorem w32_mod (x : Int) : wrap32 (x % 4294967296) = wrap32 x := by rw [w32_eq, w32_eq]; omega
theorem w32_in (x : Int) : i32 (wrap32 x) := by unfold i32; rw [w32_eq]; omega
end Go.Proofs.Ytinjlmkdhgaeeaa
