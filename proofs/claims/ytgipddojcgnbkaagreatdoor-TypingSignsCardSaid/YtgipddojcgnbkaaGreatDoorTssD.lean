/- TypingSigns. -/
import Derived.Test.YtgipddojcgnbkaaGreatDoorTssMa
import Derived.Test.YtgipddojcgnbkaaGreatDoorTssMb
import Derived.Test.YtgipddojcgnbkaaGreatDoorTssMc
import Derived.Test.YtgipddojcgnbkaaGreatDoorTssMd
import Derived.Test.YtgipddojcgnbkaaGreatDoorTssMe
import Derived.Test.YtgipddojcgnbkaaGreatDoorTssMf
import Derived.Test.YtgipddojcgnbkaaGreatDoorTssMg
import Derived.Test.YtgipddojcgnbkaaGreatDoorTssMh
import Derived.Test.YtgipddojcgnbkaaGreatDoorTssMi
import Derived.Test.YtgipddojcgnbkaaGreatDoorTssMj
set_option linter.unusedSimpArgs false
set_option linter.unusedVariables false
set_option maxRecDepth 1000000
namespace Go.Proofs.YtgipddojcgnbkaaGreatDoor
open Go.RowKit

theorem tss_case {c : Nat} (hlt : c < 300) : tssc c = true := by
  by_cases hqa : c < 30
  · exact tss_a (by omega) hqa
  by_cases hqb : c < 60
  · exact tss_b (by omega) hqb
  by_cases hqc : c < 90
  · exact tss_c (by omega) hqc
  by_cases hqd : c < 120
  · exact tss_d (by omega) hqd
  by_cases hqe : c < 150
  · exact tss_e (by omega) hqe
  by_cases hqf : c < 180
  · exact tss_f (by omega) hqf
  by_cases hqg : c < 210
  · exact tss_g (by omega) hqg
  by_cases hqh : c < 240
  · exact tss_h (by omega) hqh
  by_cases hqi : c < 270
  · exact tss_i (by omega) hqi
  exact tss_j (by omega) hlt
theorem tss_any (W : World) {C : Nat} (hW : GlW C W) (n0 : Int) (n1 : Int) (n2 : Int) : Calls Tryz.prog 3 #[.int .i64 n0, .int .i64 n1, .int .i64 n2] W fun e w' => e = .returned (.bool true) ∧ Below W.heap.size W w' := by
  obtain ⟨i0, h0, r0⟩ := rem_rel none_ n0 (m := 12) (by omega)
  obtain ⟨i1, h1, r1⟩ := rem_rel none_ n1 (m := 5) (by omega)
  obtain ⟨i2, h2, r2⟩ := rem_rel none_ n2 (m := 5) (by omega)
  have h := tss_case (c := i0 * 25 + i1 * 5 + i2 * 1) (by omega)
  unfold tssc at h
  have e0 : (Nat.mod (Nat.div (i0 * 25 + i1 * 5 + i2 * 1) 25) 12) = i0 := by show ((i0 * 25 + i1 * 5 + i2 * 1) / 25) % 12 = i0; omega
  have e1 : (Nat.mod (Nat.div (i0 * 25 + i1 * 5 + i2 * 1) 5) 5) = i1 := by show ((i0 * 25 + i1 * 5 + i2 * 1) / 5) % 5 = i1; omega
  have e2 : (Nat.mod (i0 * 25 + i1 * 5 + i2 * 1) 5) = i2 := by show (i0 * 25 + i1 * 5 + i2 * 1) % 5 = i2; omega
  rw [e0, e1, e2] at h
  exact answer tsG_ok (Checked.mixed Tryz.checked) tsX_ok tsKc_ok (l := (.cons (.r false 12 i0) (.cons (.r false 5 i1) (.cons (.r false 5 i2) .nil)))) (m := [.int .i64 n0, .int .i64 n1, .int .i64 n2]) ⟨_, _, rfl, r0, _, _, rfl, r1, _, _, rfl, r2, rfl⟩ h W hW
end Go.Proofs.YtgipddojcgnbkaaGreatDoor
