/- Law 5's brackets: by running all of it. -/
import Derived.Test.YtlifpdcpklimcaaGreatDoorBrkA
set_option linter.unusedSimpArgs false
set_option linter.unusedVariables false
set_option maxRecDepth 1000000
namespace Go.Proofs.YtlifpdcpklimcaaGreatDoor
open Go.RowKit

/-- One pair of signs. -/
noncomputable def brk1 (i j : Nat) (b : Bool) : Bool := isTF (fvC Tryz.prog (sameX 60) brkG (knownB 4 true) 10000 (.fn 3) (.cons (.r false 7 i) (.cons (.r false 7 j) (.cons (.b b) .nil))) .nil 0)
theorem brk_c0 : allF (fun j => and2 (brk1 0 j true) (brk1 0 j false)) (List.range 7) = true := by decide +kernel
theorem brk_c1 : allF (fun j => and2 (brk1 1 j true) (brk1 1 j false)) (List.range 7) = true := by decide +kernel
theorem brk_c2 : allF (fun j => and2 (brk1 2 j true) (brk1 2 j false)) (List.range 7) = true := by decide +kernel
theorem brk_c3 : allF (fun j => and2 (brk1 3 j true) (brk1 3 j false)) (List.range 7) = true := by decide +kernel
theorem brk_c4 : allF (fun j => and2 (brk1 4 j true) (brk1 4 j false)) (List.range 7) = true := by decide +kernel
theorem brk_c5 : allF (fun j => and2 (brk1 5 j true) (brk1 5 j false)) (List.range 7) = true := by decide +kernel
theorem brk_c6 : allF (fun j => and2 (brk1 6 j true) (brk1 6 j false)) (List.range 7) = true := by decide +kernel
theorem brk_case {i j : Nat} (hi : i < 7) (hj : j < 7) (b : Bool) : brk1 i j b = true := by
  have key : ∀ {i : Nat}, allF (fun j => and2 (brk1 i j true) (brk1 i j false)) (List.range 7) = true → brk1 i j b = true := by
    intro i h
    rw [allF_eq, List.all_eq_true] at h
    have h := h j (List.mem_range.2 hj)
    rw [and2_eq, Bool.and_eq_true] at h
    cases b
    · exact h.2
    · exact h.1
  rcases (by omega : i = 0 ∨ i = 1 ∨ i = 2 ∨ i = 3 ∨ i = 4 ∨ i = 5 ∨ i = 6) with rfl | rfl | rfl | rfl | rfl | rfl | rfl
  · exact key brk_c0
  · exact key brk_c1
  · exact key brk_c2
  · exact key brk_c3
  · exact key brk_c4
  · exact key brk_c5
  · exact key brk_c6
theorem brk_any (W : World) (n0 n1 : Int) (b : Bool) : Calls Tryz.prog 3 #[.int .i64 n0, .int .i64 n1, .bool b] W fun e w' => e = .returned (.bool true) ∧ Below W.heap.size W w' := by
  obtain ⟨i, hi, ri⟩ := rem_rel none_ n0 (m := 7) (by omega)
  obtain ⟨j, hj, rj⟩ := rem_rel none_ n1 (m := 7) (by omega)
  exact answer brkG_ok (Checked.mixed Tryz.checked) brkX_ok brk_known (l := .cons (.r false 7 i) (.cons (.r false 7 j) (.cons (.b b) .nil))) (m := [.int .i64 n0, .int .i64 n1, .bool b]) ⟨_, _, rfl, ri, _, _, rfl, rj, _, _, rfl, rfl, rfl⟩ (brk_case hi hj b) W
end Go.Proofs.YtlifpdcpklimcaaGreatDoor
