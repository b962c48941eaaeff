/- A case of BindSupers, by running it. -/
import Derived.Test.YtnohnacgefhgnaaGreatDoorTbB
set_option linter.unusedSimpArgs false
set_option linter.unusedVariables false
set_option maxRecDepth 1000000
namespace Go.Proofs.YtnohnacgefhgnaaGreatDoor
open Go.RowKit

noncomputable def bsuc (c : Nat) : Bool := isTF (fvC Tryz.prog tsX tsG tbK 10000 (.fn 5) (.cons (.r false 4 (Nat.mod (Nat.div c 5) 4)) (.cons (.r false 5 (Nat.mod c 5)) .nil)) heap0 nx0)
/-- The cases from c on. -/
noncomputable def bsub (c n : Nat) : Bool := allF (fun d => bsuc (Nat.add c d)) (List.range n)
theorem bsub_is {q n c : Nat} (h : bsub q n = true) (h0 : q ≤ c) (h1 : c < q + n) : bsuc c = true := by
  unfold bsub at h
  rw [allF_eq, List.all_eq_true] at h
  have h := h (c - q) (List.mem_range.2 (by omega))
  rw [show Nat.add q (c - q) = c from Nat.add_sub_cancel' h0] at h
  exact h
end Go.Proofs.YtnohnacgefhgnaaGreatDoor
