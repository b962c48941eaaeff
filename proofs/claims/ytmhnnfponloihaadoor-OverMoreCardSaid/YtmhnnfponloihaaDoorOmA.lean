/- A case of law 9's OverMore. -/
import Derived.Test.YtmhnnfponloihaaDoorOvA
set_option linter.unusedSimpArgs false
set_option linter.unusedVariables false
set_option maxRecDepth 1000000
namespace Go.Proofs.YtmhnnfponloihaaDoor
open Go.RowKit

/-- One case of OverMore. -/
noncomputable def ovm (i j k : Nat) : Bool := isTF (fvC Tryd.prog ovX ovG (knownB 7 true) 10000 (.fn 5) (.cons (.r false 512 i) (.cons (.r false 2 j) (.cons (.r false 2 k) .nil))) .nil 0)
/-- Four from i on, all of their cases. -/
noncomputable def ovm4 (i : Nat) : Bool := allF (fun d => and2 (and2 (ovm (Nat.add i d) 0 0) (ovm (Nat.add i d) 0 1)) (and2 (ovm (Nat.add i d) 1 0) (ovm (Nat.add i d) 1 1))) (List.range 4)
theorem ovm4_is {i d j k : Nat} (h : ovm4 i = true) (hd : d < 4) (hj : j < 2) (hk : k < 2) : ovm (i + d) j k = true := by
  unfold ovm4 at h
  rw [allF_eq, List.all_eq_true] at h
  have h := h d (List.mem_range.2 hd)
  simp only [and2_eq, Bool.and_eq_true] at h
  obtain ⟨⟨h1, h2⟩, h3, h4⟩ := h
  rcases (by omega : j = 0 ∨ j = 1) with rfl | rfl <;> rcases (by omega : k = 0 ∨ k = 1) with rfl | rfl
  · exact h1
  · exact h2
  · exact h3
  · exact h4
end Go.Proofs.YtmhnnfponloihaaDoor
