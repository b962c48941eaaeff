/- Law 15: what is known of the calls that it makes: the ground. -/
import Derived.Test.YteogphbdpjnjoaaGreatFvZ
import Derived.Test.YteogphbdpjnjoaaGreatChecked
set_option linter.unusedSimpArgs false
set_option linter.unusedVariables false
set_option maxRecDepth 1000000
namespace Go.Proofs.YteogphbdpjnjoaaGreat
open Go.RowKit

abbrev hfM : Nat := 191561942608236107294793378393788647952342390272950268
noncomputable def hfG : FuncId → Bool := fun f => tb hfM f
theorem hfG_all : allF (fun g => or2 (onB (tb hfM g) false true) (fnOk Tryz.prog g)) (List.range 193) = true := by decide +kernel
theorem hfG_ok : ∀ g, hfG g = true → fnOk Tryz.prog g = true := okG_of (by decide +kernel) hfG_all
noncomputable def hfX : Caller := fun _ _ _ _ => .bad
theorem hfX_ok : ExtOk Tryz.prog hfX := ext_none
noncomputable def hfK0 : Caller := fun _ _ _ _ => .bad
theorem hfK0_ok : CallOk Tryz.prog hfK0 := none_ok
end Go.Proofs.YteogphbdpjnjoaaGreat
