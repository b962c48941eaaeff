/- Law 5's brackets: by running all of it. -/
import Derived.Test.YtlifpdcpklimcaaGreatDoorFvG
import Derived.Test.YtlifpdcpklimcaaGreatDoorChecked
set_option linter.unusedSimpArgs false
set_option linter.unusedVariables false
set_option maxRecDepth 1000000
namespace Go.Proofs.YtlifpdcpklimcaaGreatDoor
open Go.RowKit

abbrev brkM : Nat := 3450873199106290601849530326711258980338526647778709761027195409530876
noncomputable def brkG : FuncId → Bool := fun f => tb brkM f
theorem brkG_all : allF (fun g => or2 (onB (tb brkM g) false true) (fnOk Tryz.prog g)) (List.range 232) = true := by decide +kernel
theorem brkG_ok : ∀ g, brkG g = true → fnOk Tryz.prog g = true := okG_of (by decide +kernel) brkG_all
theorem brkX_ok : ExtOk Tryz.prog (sameX 60) := sameX_ok Tryz.func60 (by kernel_rfl) (by kernel_rfl) (by kernel_rfl) rfl
theorem brk_told : isTF (fvC Tryz.prog (sameX 60) brkG (fun _ _ _ _ => .bad) 10000 (.fn 4) .nil .nil 0) = true := by decide +kernel
theorem brk_known : CallOk Tryz.prog (knownB 4 true) := by
  obtain ⟨h', nx', e⟩ := isTF_is brk_told
  exact knownF_ok brkG_ok (Checked.mixed Tryz.checked) brkX_ok none_ok e
end Go.Proofs.YtlifpdcpklimcaaGreatDoor
