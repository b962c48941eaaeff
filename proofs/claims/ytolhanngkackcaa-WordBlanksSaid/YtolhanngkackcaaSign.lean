/- Contracts of the functions of package sign. -/
import Derived.Test.YtolhanngkackcaaShelf
import Derived.Test.YtolhanngkackcaaText
import Derived.WalkKit
import Derived.BigCall
import Derived.Deep.QuietTactic
import Derived.BigQuiet
set_option linter.unusedSimpArgs false
set_option linter.unusedVariables false
namespace Go.Proofs.Ytolhanngkackcaa
open Go.RowKit

theorem small_any (r : Int) (w : World) : Calls Try.prog 40 #[.int .i32 r] w fun e w' => e = .returned (.bool (small r)) ∧ w = w' := by
  go_enter Try.func40, Try.ntmps40
  go_wp2
  all_goals (go_ret; exact ⟨by simp [small, *] <;> omega, rfl⟩)
theorem big_any (r : Int) (w : World) : Calls Try.prog 41 #[.int .i32 r] w fun e w' => e = .returned (.bool (big r)) ∧ w = w' := by
  go_enter Try.func41, Try.ntmps41
  go_wp2
  all_goals (go_ret; exact ⟨by simp [big, *] <;> omega, rfl⟩)
theorem digit_any (r : Int) (w : World) : Calls Try.prog 30 #[.int .i32 r] w fun e w' => e = .returned (.bool (digit r)) ∧ w = w' := by
  go_enter Try.func30, Try.ntmps30
  go_wp2
  all_goals (go_ret; exact ⟨by simp [digit, *] <;> omega, rfl⟩)

theorem letterOf_any (r : Int) (w : World) : Calls Try.prog 45 #[.int .i32 r] w fun e w' => e = .returned (.tuple #[.int .i32 (letter r), .bool (must r)]) ∧ w = w' := by
  go_enter Try.func45, Try.ntmps45
  go_wp2
  all_goals (go_ret2; refine ⟨?_, rfl⟩)
  all_goals (unfold letter must; simp_all)
theorem meantBy_any (r : Int) (esc : Bool) (w : World) : Calls Try.prog 42 #[.int .i32 r, .bool esc] w fun e w' => e = .returned (.tuple #[.int .i32 (meant r esc), .bool (means r esc)]) ∧ w = w' := by
  go_enter Try.func42, Try.ntmps42
  cases esc
  all_goals go_wp2_with (go_at_call 45; refine (letterOf_any _ _).mono ?_; rintro e w' ⟨rfl, rfl⟩)
  all_goals (go_ret2; refine ⟨?_, rfl⟩)
  all_goals (simp only [must] at *; unfold meant means; simp_all [must] <;> omega)
end Go.Proofs.Ytolhanngkackcaa
