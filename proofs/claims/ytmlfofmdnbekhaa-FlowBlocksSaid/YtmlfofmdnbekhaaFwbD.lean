/- FlowBlocks. -/
import Derived.Test.YtmlfofmdnbekhaaFwbMa
set_option linter.unusedSimpArgs false
set_option linter.unusedVariables false
set_option maxRecDepth 1000000
namespace Go.Proofs.Ytmlfofmdnbekhaa
open Go.RowKit

theorem fwb_case {c : Nat} (hlt : c < 18) : fwbc c = true := by
  exact fwb_a (by omega) hlt
theorem fwb_any (W : World) {C : Nat} (hW : GlW C W) (n0 : Int) (n1 : Bool) : Calls Try.prog 4 #[.int .i64 n0, .bool n1] W fun e w' => e = .returned (.bool true) ∧ Below W.heap.size W w' := by
  obtain ⟨i0, h0, r0⟩ := rem_rel none_ n0 (m := 9) (by omega)
  obtain ⟨i1, h1, rfl⟩ : ∃ i, i < 2 ∧ Nat.beq i 0 = n1 := by cases n1; exact ⟨1, by omega, rfl⟩; exact ⟨0, by omega, rfl⟩
  have h := fwb_case (c := i0 * 2 + i1 * 1) (by omega)
  unfold fwbc at h
  have e0 : (Nat.mod (Nat.div (i0 * 2 + i1 * 1) 2) 9) = i0 := by show ((i0 * 2 + i1 * 1) / 2) % 9 = i0; omega
  have e1 : (Nat.mod (i0 * 2 + i1 * 1) 2) = i1 := by show (i0 * 2 + i1 * 1) % 2 = i1; omega
  rw [e0, e1] at h
  exact answer fwG_ok (Checked.mixed Try.checked) fwX_ok fwK_ok (l := (.cons (.r false 9 i0) (.cons (.b (Nat.beq i1 0)) .nil))) (m := [.int .i64 n0, .bool (Nat.beq i1 0)]) ⟨_, _, rfl, r0, _, _, rfl, rfl, rfl⟩ h W hW
end Go.Proofs.Ytmlfofmdnbekhaa
