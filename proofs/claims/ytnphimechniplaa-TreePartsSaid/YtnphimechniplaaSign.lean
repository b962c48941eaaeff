/- Contracts of the functions of package sign. -/
import Derived.Test.YtnphimechniplaaShelf
import Derived.Test.YtnphimechniplaaText
import Derived.WalkKit
import Derived.BigCall
import Derived.Deep.QuietTactic
import Derived.BigQuiet
set_option linter.unusedSimpArgs false
set_option linter.unusedVariables false
namespace Go.Proofs.Ytnphimechniplaa
open Go.RowKit

theorem small_any (r : Int) (w : World) : Calls Try.prog 91 #[.int .i32 r] w fun e w' => e = .returned (.bool (small r)) ∧ w = w' := by
  go_enter Try.func91, Try.ntmps91
  go_wp2
  all_goals (go_ret; exact ⟨by simp [small, *] <;> omega, rfl⟩)
theorem big_any (r : Int) (w : World) : Calls Try.prog 98 #[.int .i32 r] w fun e w' => e = .returned (.bool (big r)) ∧ w = w' := by
  go_enter Try.func98, Try.ntmps98
  go_wp2
  all_goals (go_ret; exact ⟨by simp [big, *] <;> omega, rfl⟩)
theorem digit_any (r : Int) (w : World) : Calls Try.prog 99 #[.int .i32 r] w fun e w' => e = .returned (.bool (digit r)) ∧ w = w' := by
  go_enter Try.func99, Try.ntmps99
  go_wp2
  all_goals (go_ret; exact ⟨by simp [digit, *] <;> omega, rfl⟩)

end Go.Proofs.Ytnphimechniplaa
