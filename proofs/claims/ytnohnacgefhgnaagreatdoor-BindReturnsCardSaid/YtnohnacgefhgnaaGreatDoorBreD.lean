/- BindReturns. -/
import Derived.Test.YtnohnacgefhgnaaGreatDoorBreMa
import Derived.Test.YtnohnacgefhgnaaGreatDoorBreMb
import Derived.Test.YtnohnacgefhgnaaGreatDoorBreMc
import Derived.Test.YtnohnacgefhgnaaGreatDoorBreMd
import Derived.Test.YtnohnacgefhgnaaGreatDoorBreMe
set_option linter.unusedSimpArgs false
set_option linter.unusedVariables false
set_option maxRecDepth 1000000
namespace Go.Proofs.YtnohnacgefhgnaaGreatDoor
open Go.RowKit

theorem bre_case {c : Nat} (hlt : c < 10) : brec c = true := by
  by_cases hqa : c < 2
  · exact bre_a (by omega) hqa
  by_cases hqb : c < 4
  · exact bre_b (by omega) hqb
  by_cases hqc : c < 6
  · exact bre_c (by omega) hqc
  by_cases hqd : c < 8
  · exact bre_d (by omega) hqd
  exact bre_e (by omega) hlt
theorem bre_any (W : World) {C : Nat} (hW : GlW C W) (n0 : Int) : Calls Tryz.prog 4 #[.int .i64 n0] W fun e w' => e = .returned (.bool true) ∧ Below W.heap.size W w' := by
  obtain ⟨i0, h0, r0⟩ := rem_rel none_ n0 (m := 10) (by omega)
  have h := bre_case (c := i0 * 1) (by omega)
  unfold brec at h
  have e0 : (Nat.mod (i0 * 1) 10) = i0 := by show (i0 * 1) % 10 = i0; omega
  rw [e0] at h
  exact answer tsG_ok (Checked.mixed Tryz.checked) tsX_ok tbK_ok (l := (.cons (.r false 10 i0) .nil)) (m := [.int .i64 n0]) ⟨_, _, rfl, r0, rfl⟩ h W hW
end Go.Proofs.YtnohnacgefhgnaaGreatDoor
