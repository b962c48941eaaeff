/- Law 9's OverCounts. -/
import Derived.Test.YtmhnnfponloihaaDoorOvC0
import Derived.Test.YtmhnnfponloihaaDoorOvC1
import Derived.Test.YtmhnnfponloihaaDoorOvC2
import Derived.Test.YtmhnnfponloihaaDoorOvC3
set_option linter.unusedSimpArgs false
set_option linter.unusedVariables false
set_option maxRecDepth 1000000
namespace Go.Proofs.YtmhnnfponloihaaDoor
open Go.RowKit

theorem ovc_case {i j : Nat} (hi : i < 32) (hj : j < 6) : ovc i j = true := by
  have key : ∀ {i : Nat}, allF (fun j => ovc i j) (List.range 6) = true → ovc i j = true := by
    intro i h
    rw [allF_eq, List.all_eq_true] at h
    exact h j (List.mem_range.2 hj)
  rcases (by omega : i = 0 ∨ i = 1 ∨ i = 2 ∨ i = 3 ∨ i = 4 ∨ i = 5 ∨ i = 6 ∨ i = 7 ∨ i = 8 ∨ i = 9 ∨ i = 10 ∨ i = 11 ∨ i = 12 ∨ i = 13 ∨ i = 14 ∨ i = 15 ∨ i = 16 ∨ i = 17 ∨ i = 18 ∨ i = 19 ∨ i = 20 ∨ i = 21 ∨ i = 22 ∨ i = 23 ∨ i = 24 ∨ i = 25 ∨ i = 26 ∨ i = 27 ∨ i = 28 ∨ i = 29 ∨ i = 30 ∨ i = 31) with rfl | rfl | rfl | rfl | rfl | rfl | rfl | rfl | rfl | rfl | rfl | rfl | rfl | rfl | rfl | rfl | rfl | rfl | rfl | rfl | rfl | rfl | rfl | rfl | rfl | rfl | rfl | rfl | rfl | rfl | rfl | rfl
  · exact key ovc_0
  · exact key ovc_1
  · exact key ovc_2
  · exact key ovc_3
  · exact key ovc_4
  · exact key ovc_5
  · exact key ovc_6
  · exact key ovc_7
  · exact key ovc_8
  · exact key ovc_9
  · exact key ovc_10
  · exact key ovc_11
  · exact key ovc_12
  · exact key ovc_13
  · exact key ovc_14
  · exact key ovc_15
  · exact key ovc_16
  · exact key ovc_17
  · exact key ovc_18
  · exact key ovc_19
  · exact key ovc_20
  · exact key ovc_21
  · exact key ovc_22
  · exact key ovc_23
  · exact key ovc_24
  · exact key ovc_25
  · exact key ovc_26
  · exact key ovc_27
  · exact key ovc_28
  · exact key ovc_29
  · exact key ovc_30
  · exact key ovc_31
theorem ovc_any (W : World) (n0 n1 : Int) : Calls Tryd.prog 3 #[.int .i64 n0, .int .i64 n1] W fun e w' => e = .returned (.bool true) ∧ Below W.heap.size W w' := by
  obtain ⟨i, hi, ri⟩ := rem_rel none_ n0 (m := 32) (by omega)
  obtain ⟨j, hj, rj⟩ := rem_rel none_ n1 (m := 6) (by omega)
  exact answer ovG_ok (Checked.mixed Tryd.checked) ovX_ok ov_known (l := .cons (.r false 32 i) (.cons (.r false 6 j) .nil)) (m := [.int .i64 n0, .int .i64 n1]) ⟨_, _, rfl, ri, _, _, rfl, rj, rfl⟩ (ovc_case hi hj) W
end Go.Proofs.YtmhnnfponloihaaDoor
