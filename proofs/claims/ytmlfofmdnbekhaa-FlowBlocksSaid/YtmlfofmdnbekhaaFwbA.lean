/- A case of FlowBlocks, by running it. -/
import Derived.Test.YtmlfofmdnbekhaaFwA
set_option linter.unusedSimpArgs false
set_option linter.unusedVariables false
set_option maxRecDepth 1000000
namespace Go.Proofs.Ytmlfofmdnbekhaa
open Go.RowKit

noncomputable def fwbc (c : Nat) : Bool := isTF (fvC Try.prog fwX fwG fwK 10000 (.fn 4) (.cons (.r false 9 (Nat.mod (Nat.div c 2) 9)) (.cons (.b (Nat.beq (Nat.mod c 2) 0)) .nil)) heap0 nx0)
/-- The cases from c on. -/
noncomputable def fwbb (c n : Nat) : Bool := allF (fun d => fwbc (Nat.add c d)) (List.range n)
theorem fwbb_is {q n c : Nat} (h : fwbb q n = true) (h0 : q ≤ c) (h1 : c < q + n) : fwbc c = true := by
  unfold fwbb at h
  rw [allF_eq, List.all_eq_true] at h
  have h := h (c - q) (List.mem_range.2 (by omega))
  rw [show Nat.add q (c - q) = c from Nat.add_sub_cancel' h0] at h
  exact h
end Go.Proofs.Ytmlfofmdnbekhaa
