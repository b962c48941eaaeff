/- Law 9's told: by running it. -/
import Derived.Test.YtmhnnfponloihaaDoorFvG
import Derived.Test.YtmhnnfponloihaaDoorChecked
set_option linter.unusedSimpArgs false
set_option linter.unusedVariables false
set_option maxRecDepth 1000000
namespace Go.Proofs.YtmhnnfponloihaaDoor
open Go.RowKit

abbrev ovM : Nat := 20769197337659624797164184509874172
noncomputable def ovG : FuncId → Bool := fun f => tb ovM f
theorem ovG_all : allF (fun g => or2 (onB (tb ovM g) false true) (fnOk Tryd.prog g)) (List.range 115) = true := by decide +kernel
theorem ovG_ok : ∀ g, ovG g = true → fnOk Tryd.prog g = true := okG_of (by decide +kernel) ovG_all
noncomputable def ovX : Caller := fun _ _ _ _ => .bad
theorem ovX_ok : ExtOk Tryd.prog ovX := ext_none
theorem ov_told : isTF (fvC Tryd.prog ovX ovG (fun _ _ _ _ => .bad) 10000 (.fn 7) .nil .nil 0) = true := by decide +kernel
theorem ov_known : CallOk Tryd.prog (knownB 7 true) := by
  obtain ⟨h', nx', e⟩ := isTF_is ov_told
  exact knownF_ok ovG_ok (Checked.mixed Tryd.checked) ovX_ok none_ok e
/-- One case of OverCounts. -/
noncomputable def ovc (i j : Nat) : Bool := isTF (fvC Tryd.prog ovX ovG (knownB 7 true) 10000 (.fn 3) (.cons (.r false 32 i) (.cons (.r false 6 j) .nil)) .nil 0)
end Go.Proofs.YtmhnnfponloihaaDoor
