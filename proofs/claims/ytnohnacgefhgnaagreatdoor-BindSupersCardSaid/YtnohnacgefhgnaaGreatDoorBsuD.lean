/- BindSupers. -/
import Derived.Test.YtnohnacgefhgnaaGreatDoorBsuMa
import Derived.Test.YtnohnacgefhgnaaGreatDoorBsuMb
import Derived.Test.YtnohnacgefhgnaaGreatDoorBsuMc
import Derived.Test.YtnohnacgefhgnaaGreatDoorBsuMd
import Derived.Test.YtnohnacgefhgnaaGreatDoorBsuMe
set_option linter.unusedSimpArgs false
set_option linter.unusedVariables false
set_option maxRecDepth 1000000
namespace Go.Proofs.YtnohnacgefhgnaaGreatDoor
open Go.RowKit

theorem bsu_case {c : Nat} (hlt : c < 20) : bsuc c = true := by
  by_cases hqa : c < 4
  · exact bsu_a (by omega) hqa
  by_cases hqb : c < 8
  · exact bsu_b (by omega) hqb
  by_cases hqc : c < 12
  · exact bsu_c (by omega) hqc
  by_cases hqd : c < 16
  · exact bsu_d (by omega) hqd
  exact bsu_e (by omega) hlt
theorem bsu_any (W : World) {C : Nat} (hW : GlW C W) (n0 : Int) (n1 : Int) : Calls Tryz.prog 5 #[.int .i64 n0, .int .i64 n1] W fun e w' => e = .returned (.bool true) ∧ Below W.heap.size W w' := by
  obtain ⟨i0, h0, r0⟩ := rem_rel none_ n0 (m := 4) (by omega)
  obtain ⟨i1, h1, r1⟩ := rem_rel none_ n1 (m := 5) (by omega)
  have h := bsu_case (c := i0 * 5 + i1 * 1) (by omega)
  unfold bsuc at h
  have e0 : (Nat.mod (Nat.div (i0 * 5 + i1 * 1) 5) 4) = i0 := by show ((i0 * 5 + i1 * 1) / 5) % 4 = i0; omega
  have e1 : (Nat.mod (i0 * 5 + i1 * 1) 5) = i1 := by show (i0 * 5 + i1 * 1) % 5 = i1; omega
  rw [e0, e1] at h
  exact answer tsG_ok (Checked.mixed Tryz.checked) tsX_ok tbK_ok (l := (.cons (.r false 4 i0) (.cons (.r false 5 i1) .nil))) (m := [.int .i64 n0, .int .i64 n1]) ⟨_, _, rfl, r0, _, _, rfl, r1, rfl⟩ h W hW
end Go.Proofs.YtnohnacgefhgnaaGreatDoor
