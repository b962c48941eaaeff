/- Law 11: what is known of the calls that its cases make. -/
import Derived.Test.YtmlfofmdnbekhaaEw6
import Derived.Test.YtmlfofmdnbekhaaChecked
set_option linter.unusedSimpArgs false
set_option linter.unusedVariables false
set_option maxRecDepth 1000000
namespace Go.Proofs.Ytmlfofmdnbekhaa
open Go.RowKit

abbrev fwM : Nat := 1048572
noncomputable def fwG : FuncId → Bool := fun f => tb fwM f
theorem fwG_all : allF (fun g => or2 (onB (tb fwM g) false true) (fnOk Try.prog g)) (List.range 36) = true := by decide +kernel
theorem fwG_ok : ∀ g, fwG g = true → fnOk Try.prog g = true := okG_of (by decide +kernel) fwG_all
noncomputable def fwX : Caller := fun _ _ _ _ => .bad
theorem fwX_ok : ExtOk Try.prog fwX := ext_none
noncomputable def fwK0 : Caller := fun _ _ _ _ => .bad
theorem fwK0_ok : CallOk Try.prog fwK0 := none_ok
theorem fw_told : isTF (fvC Try.prog fwX fwG fwK0 10000 (.fn 6) .nil heap0 nx0) = true := by decide +kernel
noncomputable def fwK : Caller := knownB 6 true
theorem fwK_ok : CallOk Try.prog fwK := knownT_ok fwG_ok (Checked.mixed Try.checked) fwX_ok fwK0_ok fw_told
end Go.Proofs.Ytmlfofmdnbekhaa
