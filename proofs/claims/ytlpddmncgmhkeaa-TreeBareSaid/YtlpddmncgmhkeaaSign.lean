/- Contracts of the functions of package sign. -/
import Derived.Test.YtlpddmncgmhkeaaShelf
import Derived.Test.YtlpddmncgmhkeaaText
import Derived.WalkKit
import Derived.BigCall
import Derived.Deep.QuietTactic
import Derived.BigQuiet
set_option linter.unusedSimpArgs false
set_option linter.unusedVariables false
namespace Go.Proofs.Ytlpddmncgmhkeaa
open Go.RowKit

theorem small_any (r : Int) (w : World) : Calls Try.prog 83 #[.int .i32 r] w fun e w' => e = .returned (.bool (small r)) ∧ w = w' := by
  go_enter Try.func83, Try.ntmps83
  go_wp2
  all_goals (go_ret; exact ⟨by simp [small, *] <;> omega, rfl⟩)
theorem big_any (r : Int) (w : World) : Calls Try.prog 90 #[.int .i32 r] w fun e w' => e = .returned (.bool (big r)) ∧ w = w' := by
  go_enter Try.func90, Try.ntmps90
  go_wp2
  all_goals (go_ret; exact ⟨by simp [big, *] <;> omega, rfl⟩)
theorem digit_any (r : Int) (w : World) : Calls Try.prog 91 #[.int .i32 r] w fun e w' => e = .returned (.bool (digit r)) ∧ w = w' := by
  go_enter Try.func91, Try.ntmps91
  go_wp2
  all_goals (go_ret; exact ⟨by simp [digit, *] <;> omega, rfl⟩)

end Go.Proofs.Ytlpddmncgmhkeaa
