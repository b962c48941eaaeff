/- A case of TypingSigns, by running it. -/
import Derived.Test.YtgipddojcgnbkaaGreatDoorTsH
set_option linter.unusedSimpArgs false
set_option linter.unusedVariables false
set_option maxRecDepth 1000000
namespace Go.Proofs.YtgipddojcgnbkaaGreatDoor
open Go.RowKit

noncomputable def tssc (c : Nat) : Bool := isTF (fvC Tryz.prog tsX tsG tsKc 10000 (.fn 3) (.cons (.r false 12 (Nat.mod (Nat.div c 25) 12)) (.cons (.r false 5 (Nat.mod (Nat.div c 5) 5)) (.cons (.r false 5 (Nat.mod c 5)) .nil))) heap0 nx0)
/-- The cases from c on. -/
noncomputable def tssb (c n : Nat) : Bool := allF (fun d => tssc (Nat.add c d)) (List.range n)
theorem tssb_is {q n c : Nat} (h : tssb q n = true) (h0 : q ≤ c) (h1 : c < q + n) : tssc c = true := by
  unfold tssb at h
  rw [allF_eq, List.all_eq_true] at h
  have h := h (c - q) (List.mem_range.2 (by omega))
  rw [show Nat.add q (c - q) = c from Nat.add_sub_cancel' h0] at h
  exact h
end Go.Proofs.YtgipddojcgnbkaaGreatDoor
