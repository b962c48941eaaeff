/- Law 15: calls that it makes, by running them. -/
import Derived.Test.YteogphbdpjnjoaaGreatHfD
import Derived.Test.YteogphbdpjnjoaaGreatHfF
set_option linter.unusedSimpArgs false
set_option linter.unusedVariables false
set_option maxRecDepth 1000000
namespace Go.Proofs.YteogphbdpjnjoaaGreat
open Go.RowKit

noncomputable def hfKt : Caller := (orK hfdK hffK)
theorem hfKt_ok : CallOk Tryz.prog hfKt := (orK_ok hfdK_ok hffK_ok)
theorem hf_told : isTF (fvC Tryz.prog hfX hfG hfKt 10000 (.fn 7) .nil heap0 nx0) = true := by decide +kernel
noncomputable def hfK2 : Caller := knownB 7 true
theorem hfK2_ok : CallOk Tryz.prog hfK2 := knownT_ok hfG_ok (Checked.mixed Tryz.checked) hfX_ok hfKt_ok hf_told
noncomputable def hfK : Caller := orK hfK2 hfKt
theorem hfK_ok : CallOk Tryz.prog hfK := orK_ok hfK2_ok hfKt_ok
end Go.Proofs.YteogphbdpjnjoaaGreat
