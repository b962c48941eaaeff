/- HeapFields: any two objects of three, any two fields, any two numbers. -/
import Derived.Test.YteogphbdpjnjoaaGreatHfe0
import Derived.Test.YteogphbdpjnjoaaGreatHfe1
import Derived.Test.YteogphbdpjnjoaaGreatHfe2
set_option linter.unusedSimpArgs false
set_option linter.unusedVariables false
set_option maxRecDepth 1000000
namespace Go.Proofs.YteogphbdpjnjoaaGreat
open Go.RowKit

theorem hfe_ij {i j : Nat} (hi : i < 3) (hj : j < 3) : hfe i j = true := by
  rcases (show i = 0 ∨ i = 1 ∨ i = 2 by omega) with rfl | rfl | rfl <;> rcases (show j = 0 ∨ j = 1 ∨ j = 2 by omega) with rfl | rfl | rfl
  · exact hfe_00
  · exact hfe_01
  · exact hfe_02
  · exact hfe_10
  · exact hfe_11
  · exact hfe_12
  · exact hfe_20
  · exact hfe_21
  · exact hfe_22
theorem hfe_any (W : World) {C : Nat} (hW : GlW C W) (a b f g x y : Int) : Calls Tryz.prog 5 #[.int .i64 a, .int .i64 b, .int .i64 f, .int .i64 g, .int .i32 x, .int .i32 y] W fun e w' => e = .returned (.bool true) ∧ Below W.heap.size W w' := by
  obtain ⟨i, hi, ri⟩ := rem_rel none_ a (m := 3) (by omega)
  obtain ⟨j, hj, rj⟩ := rem_rel none_ b (m := 3) (by omega)
  obtain ⟨k, hk, rk⟩ := rem_rel none_ f (m := 6) (by omega)
  obtain ⟨l, hl, rl⟩ := rem_rel none_ g (m := 6) (by omega)
  exact answerP hfG_ok (Checked.mixed Tryz.checked) hfX_ok hfK_ok (m := [.int .i64 a, .int .i64 b, .int .i64 f, .int .i64 g, .int .i32 x, .int .i32 y]) (l := hfeL) (ts := hfeT i j) (ys := [(encI a, 0), (encI b, 0), (encI f, 0), (encI g, 0), (encI x, 0), (encI y, 0)])
    ⟨_, _, rfl, num_relZ (i := 0) rfl, _, _, rfl, num_relZ (i := 1) rfl, _, _, rfl, num_relZ (i := 2) rfl, _, _, rfl, num_relZ (i := 3) rfl, _, _, rfl, num_relZ (i := 4) rfl, _, _, rfl, num_relZ (i := 5) rfl, rfl⟩ (hfe_ij hi hj)
    (fun q hq => by
      rcases List.mem_cons.1 hq with rfl | hq
      · exact any1_in (j := 0) rfl ri (List.mem_singleton.2 rfl)
      rcases List.mem_cons.1 hq with rfl | hq
      · exact any1_in (j := 1) rfl rj (List.mem_singleton.2 rfl)
      rcases List.mem_cons.1 hq with rfl | hq
      · exact any1_in (j := 2) rfl rk (List.mem_range.2 hk)
      obtain rfl := List.mem_singleton.1 hq
      exact any1_in (j := 3) rfl rl (List.mem_range.2 hl)) W hW
theorem hfe_all (W : World) (a b f g x y : Int) (hz : glob = none) : Calls Tryz.prog 5 #[.int .i64 a, .int .i64 b, .int .i64 f, .int .i64 g, .int .i32 x, .int .i32 y] W fun e w' => e = .returned (.bool true) ∧ Below W.heap.size W w' :=
  hfe_any W (C := 0) (fun g hg => by rw [hz] at hg; cases hg) a b f g x y
theorem hfe_row (W : World) (a b f g x y : Int) {p q : Prop} (_ : p) (_ : q) : Calls Tryz.prog 5 #[.int .i64 a, .int .i64 b, .int .i64 f, .int .i64 g, .int .i32 x, .int .i32 y] W fun e w' => e = .returned (.bool true) ∧ Below W.heap.size W w' := hfe_all W a b f g x y rfl
end Go.Proofs.YteogphbdpjnjoaaGreat
