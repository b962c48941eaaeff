/- Law 12: calls that its told makes, by running them. -/
import Derived.Test.YtnohnacgefhgnaaGreatDoorTbD
import Derived.Test.YtnohnacgefhgnaaGreatDoorTbR
set_option linter.unusedSimpArgs false
set_option linter.unusedVariables false
set_option maxRecDepth 1000000
namespace Go.Proofs.YtnohnacgefhgnaaGreatDoor
open Go.RowKit

noncomputable def tbKt : Caller := (orK tbdK (orK tbrK tsK0))
theorem tbKt_ok : CallOk Tryz.prog tbKt := (orK_ok tbdK_ok (orK_ok tbrK_ok tsK0_ok))
theorem tb_told : isTF (fvC Tryz.prog tsX tsG tbKt 10000 (.fn 8) .nil heap0 nx0) = true := by decide +kernel
noncomputable def tbK2 : Caller := knownB 8 true
theorem tbK2_ok : CallOk Tryz.prog tbK2 := knownT_ok tsG_ok (Checked.mixed Tryz.checked) tsX_ok tbKt_ok tb_told
noncomputable def tbK : Caller := orK tbK2 tsK0
theorem tbK_ok : CallOk Tryz.prog tbK := orK_ok tbK2_ok tsK0_ok
end Go.Proofs.YtnohnacgefhgnaaGreatDoor
