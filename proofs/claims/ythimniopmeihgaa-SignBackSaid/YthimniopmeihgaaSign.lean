/- Contracts of the functions of package sign. -/
import Derived.Test.YthimniopmeihgaaShelf
import Derived.Test.YthimniopmeihgaaText
import Derived.WalkKit
import Derived.BigCall
import Derived.Deep.QuietTactic
import Derived.BigQuiet
set_option linter.unusedSimpArgs false
set_option linter.unusedVariables false
namespace Go.Proofs.Ythimniopmeihgaa
open Go.RowKit

theorem small_any (r : Int) (w : World) : Calls Try.prog 11 #[.int .i32 r] w fun e w' => e = .returned (.bool (small r)) ∧ w = w' := by
  go_enter Try.func11, Try.ntmps11
  go_wp2
  all_goals (go_ret; exact ⟨by simp [small, *] <;> omega, rfl⟩)
theorem big_any (r : Int) (w : World) : Calls Try.prog 13 #[.int .i32 r] w fun e w' => e = .returned (.bool (big r)) ∧ w = w' := by
  go_enter Try.func13, Try.ntmps13
  go_wp2
  all_goals (go_ret; exact ⟨by simp [big, *] <;> omega, rfl⟩)
theorem digit_any (r : Int) (w : World) : Calls Try.prog 15 #[.int .i32 r] w fun e w' => e = .returned (.bool (digit r)) ∧ w = w' := by
  go_enter Try.func15, Try.ntmps15
  go_wp2
  all_goals (go_ret; exact ⟨by simp [digit, *] <;> omega, rfl⟩)

theorem letterOf_any (r : Int) (w : World) : Calls Try.prog 34 #[.int .i32 r] w fun e w' => e = .returned (.tuple #[.int .i32 (letter r), .bool (must r)]) ∧ w = w' := by
  go_enter Try.func34, Try.ntmps34
  go_wp2
  all_goals (go_ret2; refine ⟨?_, rfl⟩)
  all_goals (unfold letter must; simp_all)
theorem meantBy_any (r : Int) (esc : Bool) (w : World) : Calls Try.prog 25 #[.int .i32 r, .bool esc] w fun e w' => e = .returned (.tuple #[.int .i32 (meant r esc), .bool (means r esc)]) ∧ w = w' := by
  go_enter Try.func25, Try.ntmps25
  cases esc
  all_goals go_wp2_with (go_at_call 34; refine (letterOf_any _ _).mono ?_; rintro e w' ⟨rfl, rfl⟩)
  all_goals (go_ret2; refine ⟨?_, rfl⟩)
  all_goals (simp only [must] at *; unfold meant means; simp_all [must] <;> omega)
theorem reserved_any (s : ByteArray) (w : World) : Calls Try.prog 30 #[.string s] w fun e w' => e = .returned (.bool (kept s.data.toList)) ∧ w = w' := by
  go_enter Try.func30, Try.ntmps30
  rw [← Lib.toList_data]
  go_wp2
  all_goals (go_ret; refine ⟨?_, rfl⟩)
  all_goals first | (simp_all only [kept, keptWords, List.contains_cons]; done) | (simp_all [kept, keptWords, List.contains_cons]; done)
end Go.Proofs.Ythimniopmeihgaa
