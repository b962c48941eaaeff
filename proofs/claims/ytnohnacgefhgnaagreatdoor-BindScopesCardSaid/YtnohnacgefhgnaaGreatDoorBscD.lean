/- BindScopes. -/
import Derived.Test.YtnohnacgefhgnaaGreatDoorBscMa
import Derived.Test.YtnohnacgefhgnaaGreatDoorBscMb
import Derived.Test.YtnohnacgefhgnaaGreatDoorBscMc
import Derived.Test.YtnohnacgefhgnaaGreatDoorBscMd
set_option linter.unusedSimpArgs false
set_option linter.unusedVariables false
set_option maxRecDepth 1000000
namespace Go.Proofs.YtnohnacgefhgnaaGreatDoor
open Go.RowKit

theorem bsc_case {c : Nat} (hlt : c < 4) : bscc c = true := by
  by_cases hqa : c < 1
  · exact bsc_a (by omega) hqa
  by_cases hqb : c < 2
  · exact bsc_b (by omega) hqb
  by_cases hqc : c < 3
  · exact bsc_c (by omega) hqc
  exact bsc_d (by omega) hlt
theorem bsc_any (W : World) {C : Nat} (hW : GlW C W) (n0 : Int) : Calls Tryz.prog 3 #[.int .i64 n0] W fun e w' => e = .returned (.bool true) ∧ Below W.heap.size W w' := by
  obtain ⟨i0, h0, r0⟩ := rem_rel none_ n0 (m := 4) (by omega)
  have h := bsc_case (c := i0 * 1) (by omega)
  unfold bscc at h
  have e0 : (Nat.mod (i0 * 1) 4) = i0 := by show (i0 * 1) % 4 = i0; omega
  rw [e0] at h
  exact answer tsG_ok (Checked.mixed Tryz.checked) tsX_ok tbK_ok (l := (.cons (.r false 4 i0) .nil)) (m := [.int .i64 n0]) ⟨_, _, rfl, r0, rfl⟩ h W hW
end Go.Proofs.YtnohnacgefhgnaaGreatDoor
