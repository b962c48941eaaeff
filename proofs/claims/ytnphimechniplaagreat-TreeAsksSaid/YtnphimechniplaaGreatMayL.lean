/- The document's leaves of May: Type, Left, Called, hasName, hasClass, Binary, Unary. -/
import Derived.Test.YtnphimechniplaaGreatRefB
import Derived.Test.YtnphimechniplaaGreatFit
set_option linter.unusedSimpArgs false
set_option linter.unusedVariables false
namespace Go.Proofs.YtnphimechniplaaGreat
open Go.RowKit
theorem ret_bool' {a b : Bool} (h : a = b) : Ending.returned (.bool a) = .returned (.bool b) := by rw [h]
set_option maxRecDepth 100000 in
set_option maxHeartbeats 1000000 in
theorem rtype_any (s : ByteArray) (w : World) (hs : s.size ≤ maxLen) : Calls Tryz.prog 25 #[.string s] w fun e w' => e = .returned (.bool (valT s)) ∧ w = w' := by
  have HC := Lib.hid (rclass_any s w hs)
  obtain ⟨q, hq⟩ : ∃ q, classOk s = q := ⟨_, rfl⟩
  rw [hq] at HC
  obtain ⟨q0, h0⟩ : ∃ q, (s.toList == [105, 110, 116]) = q := ⟨_, rfl⟩
  obtain ⟨q1, h1⟩ : ∃ q, (s.toList == [98, 111, 111, 108, 101, 97, 110]) = q := ⟨_, rfl⟩
  obtain ⟨q2, h2⟩ : ∃ q, (s.toList == [83, 116, 114, 105, 110, 103]) = q := ⟨_, rfl⟩
  have HR := Lib.hid (show valT s = (q0 || (q1 || (q2 || q))) by unfold valT; rw [h0, h1, h2, hq])
  rw [HR.out]
  go_enter Tryz.func25, Tryz.ntmps25
  go_wp2_with (go_at_call 24; refine HC.out.mono ?_; clear HC; rintro e w1 ⟨rfl, rfl⟩)
  all_goals go_ret
  all_goals exact ⟨ret_bool' (by simp_all), rfl⟩
set_option maxRecDepth 100000 in
set_option maxHeartbeats 1000000 in
theorem rleft_any (k : Int) (w : World) : Calls Tryz.prog 99 #[.int .i64 k] w fun e w' => e = .returned (.bool (setB k)) ∧ w = w' := by
  go_enter Tryz.func99, Tryz.ntmps99
  go_wp2_with fail
  all_goals go_ret
  all_goals exact ⟨ret_bool' (by rw [Bool.eq_iff_iff]; simp_all [setB] <;> omega), rfl⟩
set_option maxRecDepth 100000 in
set_option maxHeartbeats 1000000 in
theorem rcalled_any (k : Int) (w : World) : Calls Tryz.prog 100 #[.int .i64 k] w fun e w' => e = .returned (.bool (calB k)) ∧ w = w' := by
  go_enter Tryz.func100, Tryz.ntmps100
  go_wp2_with fail
  all_goals go_ret
  all_goals exact ⟨ret_bool' (by rw [Bool.eq_iff_iff]; simp_all [calB] <;> omega), rfl⟩
def hasNameB (k : Int) : Bool := decide (6 ≤ k ∧ k ≤ 13 ∨ k = 17 ∨ k = 18)
def hasClassB (k : Int) : Bool := decide (k = 9 ∨ k = 13 ∨ k = 14 ∨ k = 15 ∨ k = 16)
set_option maxRecDepth 100000 in
set_option maxHeartbeats 1000000 in
theorem hasName_any (k : Int) (w : World) : Calls Tryz.prog 47 #[.int .i64 k] w fun e w' => e = .returned (.bool (hasNameB k)) ∧ w = w' := by
  go_enter Tryz.func47, Tryz.ntmps47
  go_wp2_with fail
  all_goals go_ret
  all_goals exact ⟨ret_bool' (by rw [Bool.eq_iff_iff]; simp_all [hasNameB] <;> omega), rfl⟩
set_option maxRecDepth 100000 in
set_option maxHeartbeats 1000000 in
theorem hasClass_any (k : Int) (w : World) : Calls Tryz.prog 48 #[.int .i64 k] w fun e w' => e = .returned (.bool (hasClassB k)) ∧ w = w' := by
  go_enter Tryz.func48, Tryz.ntmps48
  go_wp2_with fail
  all_goals go_ret
  all_goals exact ⟨ret_bool' (by rw [Bool.eq_iff_iff]; simp_all [hasClassB] <;> omega), rfl⟩
set_option maxRecDepth 100000 in
set_option maxHeartbeats 1000000 in
theorem runary_any (s : ByteArray) (w : World) : Calls Tryz.prog 46 #[.string s] w fun e w' => e = .returned (.bool (unB s)) ∧ w = w' := by
  go_enter Tryz.func46, Tryz.ntmps46
  go_wp2_with fail
  all_goals (go_ret; exact ⟨by simp_all [unB, Bool.or_assoc], rfl⟩)
def binTexts : List ByteArray := [⟨#[43]⟩, ⟨#[45]⟩, ⟨#[42]⟩, ⟨#[47]⟩, ⟨#[37]⟩, ⟨#[64]⟩, ⟨#[60]⟩, ⟨#[60, 61]⟩, ⟨#[61, 61]⟩, ⟨#[33, 61]⟩, ⟨#[38, 38]⟩, ⟨#[124, 124]⟩]
theorem bin_in (s : ByteArray) : hasText binTexts s = binB s := by
  rw [Bool.eq_iff_iff]
  simp [hasText, binTexts, binB]
  rw [Lib.toList_data]
theorem rbinary_any (s : ByteArray) (w : World) : Calls Tryz.prog 45 #[.string s] w fun e w' => e = .returned (.bool (binB s)) ∧ Below w.heap.size w w' := by
  rw [← bin_in]
  go_enter Tryz.func45, Tryz.ntmps45
  go_wp2_with (go_at_call 70; refine (in_any _ _ _ _ binTexts _ _ rfl (by decide) (cells_lit _ _ _ _ rfl)).mono ?_; rintro e w' ⟨rfl, rfl⟩)
  go_ret
  exact ⟨rfl, (Below.refl _ w).alloc (Nat.le_refl _) _⟩
end Go.Proofs.YtnphimechniplaaGreat
