/- HeapFull: the objects are made once, and each is asked for. -/
import Derived.Test.YteogphbdpjnjoaaGreatHfB
set_option linter.unusedSimpArgs false
set_option linter.unusedVariables false
set_option maxRecDepth 1000000
namespace Go.Proofs.YteogphbdpjnjoaaGreat
open Go.RowKit

theorem hfu_run : (restsF Tryz.prog hfX hfG 4 4 [⟨0, List.range 200, 200, zB⟩]).un (fvC Tryz.prog hfX hfG hfK 10000) 10000 (.cons (.y (.i .i64 zB)) .nil) heap0 nx0 = true := by decide +kernel
theorem hfu_any (W : World) {C : Nat} (hW : GlW C W) (z : Int) : Calls Tryz.prog 4 #[.int .i64 z] W fun e w' => e = .returned (.bool true) ∧ Below W.heap.size W w' := by
  obtain ⟨i, hi, hr⟩ := rem_rel none_ z (m := 200) (by omega)
  exact answerP hfG_ok (Checked.mixed Tryz.checked) hfX_ok hfK_ok (m := [.int .i64 z]) (l := .cons (.y (.i .i64 zB)) .nil) (ts := [⟨0, List.range 200, 200, zB⟩]) (ys := [(encI z, 0)]) ⟨_, _, rfl, num_relZ (i := 0) rfl, rfl⟩ hfu_run
    (fun x hx => by
      obtain rfl : x = ⟨0, List.range 200, 200, zB⟩ := List.mem_singleton.1 hx
      exact any1_in (j := 0) rfl hr (List.mem_range.2 hi)) W hW
theorem hfu_all (W : World) (z : Int) (hz : glob = none) : Calls Tryz.prog 4 #[.int .i64 z] W fun e w' => e = .returned (.bool true) ∧ Below W.heap.size W w' :=
  hfu_any W (C := 0) (fun g hg => by rw [hz] at hg; cases hg) z
theorem hfu_row (W : World) (z : Int) : Calls Tryz.prog 4 #[.int .i64 z] W fun e w' => e = .returned (.bool true) ∧ Below W.heap.size W w' := hfu_all W z rfl
end Go.Proofs.YteogphbdpjnjoaaGreat
