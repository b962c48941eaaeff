/- Law 10: calls that its told makes, by running them. -/
import Derived.Test.YtgipddojcgnbkaaGreatDoorTsD
import Derived.Test.YtgipddojcgnbkaaGreatDoorTsF
import Derived.Test.YtgipddojcgnbkaaGreatDoorTsG
import Derived.Test.YtgipddojcgnbkaaGreatDoorTsM
set_option linter.unusedSimpArgs false
set_option linter.unusedVariables false
set_option maxRecDepth 1000000
namespace Go.Proofs.YtgipddojcgnbkaaGreatDoor
open Go.RowKit

noncomputable def tsKt : Caller := orK tsK0 (orK tsdK (orK tsfK tsgK))
theorem tsKt_ok : CallOk Tryz.prog tsKt := orK_ok tsK0_ok (orK_ok tsdK_ok (orK_ok tsfK_ok tsgK_ok))
theorem ts_told : isTF (fvC Tryz.prog tsX tsG tsKt 10000 (.fn 7) .nil heap0 nx0) = true := by decide +kernel
noncomputable def tsK2 : Caller := knownB 7 true
theorem tsK2_ok : CallOk Tryz.prog tsK2 := knownT_ok tsG_ok (Checked.mixed Tryz.checked) tsX_ok tsKt_ok ts_told
noncomputable def tsK : Caller := orK tsK2 (orK tsK1 tsK0)
theorem tsK_ok : CallOk Tryz.prog tsK := orK_ok tsK2_ok (orK_ok tsK1_ok tsK0_ok)
end Go.Proofs.YtgipddojcgnbkaaGreatDoor
