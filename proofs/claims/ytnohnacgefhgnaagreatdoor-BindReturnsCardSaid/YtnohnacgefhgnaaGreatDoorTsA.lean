/- Law 10: what is known of the calls that its cases make: the ground. -/
import Derived.Test.YtnohnacgefhgnaaGreatDoorEw6
import Derived.Test.YtnohnacgefhgnaaGreatDoorChecked
import Derived.Test.YtnohnacgefhgnaaGreatDoorShelf
set_option linter.unusedSimpArgs false
set_option linter.unusedVariables false
set_option maxRecDepth 1000000
namespace Go.Proofs.YtnohnacgefhgnaaGreatDoor
open Go.RowKit

abbrev tsM : Nat := 1322112050861265012537958351367782367569699055532812841157456760900155119679072784704858928695446052489314891369102188740604
noncomputable def tsG : FuncId → Bool := fun f => tb tsM f
theorem tsG_all : allF (fun g => or2 (onB (tb tsM g) false true) (fnOk Tryz.prog g)) (List.range 410) = true := by decide +kernel
theorem tsG_ok : ∀ g, tsG g = true → fnOk Tryz.prog g = true := okG_of (by decide +kernel) tsG_all
noncomputable def tsX : Caller := fun _ _ _ _ => .bad
theorem tsX_ok : ExtOk Tryz.prog tsX := ext_none
noncomputable def tsK0 : Caller := hasK 370
theorem tsK0_ok : CallOk Tryz.prog tsK0 := hasK_ok fun s sub m w g hg hs hm => by cases hg; exact Tryz.strings_Contains s sub m w hs hm
end Go.Proofs.YtnohnacgefhgnaaGreatDoor
