/- TreeShapes, all kinds. -/
import Derived.Test.YtnphimechniplaaShapeB
import Derived.Test.YtnphimechniplaaShapeC
import Derived.Test.YtnphimechniplaaShapeD
import Derived.Test.YtnphimechniplaaShapeE
import Derived.Test.YtnphimechniplaaShapeF
import Derived.Test.YtnphimechniplaaShapeG
namespace Go.Proofs.Ytnphimechniplaa
open Go.RowKit
theorem shapes_any (a0 a1 : Int) (_ : (Lit.int .i64 a0).wf = true) (_ : (Lit.int .i64 a1).wf = true) (w : World) :
    Calls Try.prog 6 #[.int .i64 a0, .int .i64 a1] w fun e w' => e = .returned (.bool true) ∧ Below w.heap.size w w' := by
  obtain ⟨x, i, p1, p2, p3, _⟩ := which a0 18 (by omega) (by omega)
  obtain ⟨y, j, q1, q2, q3, _⟩ := which a1 3 (by omega) (by omega)
  have p2' : x.tmod 18 = (i : Int) := by simpa using p2
  have q2' : y.tmod 3 = (j : Int) := by simpa using q2
  match i, j, p3, q3, p2', q2' with
  | 0, 0, _, _, p, q => exact shape_0_0 w a0 a1 x y p1 (by simpa using p) q1 (by simpa using q)
  | 0, 1, _, _, p, q => exact shape_0_1 w a0 a1 x y p1 (by simpa using p) q1 (by simpa using q)
  | 0, 2, _, _, p, q => exact shape_0_2 w a0 a1 x y p1 (by simpa using p) q1 (by simpa using q)
  | 1, 0, _, _, p, q => exact shape_1_0 w a0 a1 x y p1 (by simpa using p) q1 (by simpa using q)
  | 1, 1, _, _, p, q => exact shape_1_1 w a0 a1 x y p1 (by simpa using p) q1 (by simpa using q)
  | 1, 2, _, _, p, q => exact shape_1_2 w a0 a1 x y p1 (by simpa using p) q1 (by simpa using q)
  | 2, 0, _, _, p, q => exact shape_2_0 w a0 a1 x y p1 (by simpa using p) q1 (by simpa using q)
  | 2, 1, _, _, p, q => exact shape_2_1 w a0 a1 x y p1 (by simpa using p) q1 (by simpa using q)
  | 2, 2, _, _, p, q => exact shape_2_2 w a0 a1 x y p1 (by simpa using p) q1 (by simpa using q)
  | 3, 0, _, _, p, q => exact shape_3_0 w a0 a1 x y p1 (by simpa using p) q1 (by simpa using q)
  | 3, 1, _, _, p, q => exact shape_3_1 w a0 a1 x y p1 (by simpa using p) q1 (by simpa using q)
  | 3, 2, _, _, p, q => exact shape_3_2 w a0 a1 x y p1 (by simpa using p) q1 (by simpa using q)
  | 4, 0, _, _, p, q => exact shape_4_0 w a0 a1 x y p1 (by simpa using p) q1 (by simpa using q)
  | 4, 1, _, _, p, q => exact shape_4_1 w a0 a1 x y p1 (by simpa using p) q1 (by simpa using q)
  | 4, 2, _, _, p, q => exact shape_4_2 w a0 a1 x y p1 (by simpa using p) q1 (by simpa using q)
  | 5, 0, _, _, p, q => exact shape_5_0 w a0 a1 x y p1 (by simpa using p) q1 (by simpa using q)
  | 5, 1, _, _, p, q => exact shape_5_1 w a0 a1 x y p1 (by simpa using p) q1 (by simpa using q)
  | 5, 2, _, _, p, q => exact shape_5_2 w a0 a1 x y p1 (by simpa using p) q1 (by simpa using q)
  | 6, 0, _, _, p, q => exact shape_6_0 w a0 a1 x y p1 (by simpa using p) q1 (by simpa using q)
  | 6, 1, _, _, p, q => exact shape_6_1 w a0 a1 x y p1 (by simpa using p) q1 (by simpa using q)
  | 6, 2, _, _, p, q => exact shape_6_2 w a0 a1 x y p1 (by simpa using p) q1 (by simpa using q)
  | 7, 0, _, _, p, q => exact shape_7_0 w a0 a1 x y p1 (by simpa using p) q1 (by simpa using q)
  | 7, 1, _, _, p, q => exact shape_7_1 w a0 a1 x y p1 (by simpa using p) q1 (by simpa using q)
  | 7, 2, _, _, p, q => exact shape_7_2 w a0 a1 x y p1 (by simpa using p) q1 (by simpa using q)
  | 8, 0, _, _, p, q => exact shape_8_0 w a0 a1 x y p1 (by simpa using p) q1 (by simpa using q)
  | 8, 1, _, _, p, q => exact shape_8_1 w a0 a1 x y p1 (by simpa using p) q1 (by simpa using q)
  | 8, 2, _, _, p, q => exact shape_8_2 w a0 a1 x y p1 (by simpa using p) q1 (by simpa using q)
  | 9, 0, _, _, p, q => exact shape_9_0 w a0 a1 x y p1 (by simpa using p) q1 (by simpa using q)
  | 9, 1, _, _, p, q => exact shape_9_1 w a0 a1 x y p1 (by simpa using p) q1 (by simpa using q)
  | 9, 2, _, _, p, q => exact shape_9_2 w a0 a1 x y p1 (by simpa using p) q1 (by simpa using q)
  | 10, 0, _, _, p, q => exact shape_10_0 w a0 a1 x y p1 (by simpa using p) q1 (by simpa using q)
  | 10, 1, _, _, p, q => exact shape_10_1 w a0 a1 x y p1 (by simpa using p) q1 (by simpa using q)
  | 10, 2, _, _, p, q => exact shape_10_2 w a0 a1 x y p1 (by simpa using p) q1 (by simpa using q)
  | 11, 0, _, _, p, q => exact shape_11_0 w a0 a1 x y p1 (by simpa using p) q1 (by simpa using q)
  | 11, 1, _, _, p, q => exact shape_11_1 w a0 a1 x y p1 (by simpa using p) q1 (by simpa using q)
  | 11, 2, _, _, p, q => exact shape_11_2 w a0 a1 x y p1 (by simpa using p) q1 (by simpa using q)
  | 12, 0, _, _, p, q => exact shape_12_0 w a0 a1 x y p1 (by simpa using p) q1 (by simpa using q)
  | 12, 1, _, _, p, q => exact shape_12_1 w a0 a1 x y p1 (by simpa using p) q1 (by simpa using q)
  | 12, 2, _, _, p, q => exact shape_12_2 w a0 a1 x y p1 (by simpa using p) q1 (by simpa using q)
  | 13, 0, _, _, p, q => exact shape_13_0 w a0 a1 x y p1 (by simpa using p) q1 (by simpa using q)
  | 13, 1, _, _, p, q => exact shape_13_1 w a0 a1 x y p1 (by simpa using p) q1 (by simpa using q)
  | 13, 2, _, _, p, q => exact shape_13_2 w a0 a1 x y p1 (by simpa using p) q1 (by simpa using q)
  | 14, 0, _, _, p, q => exact shape_14_0 w a0 a1 x y p1 (by simpa using p) q1 (by simpa using q)
  | 14, 1, _, _, p, q => exact shape_14_1 w a0 a1 x y p1 (by simpa using p) q1 (by simpa using q)
  | 14, 2, _, _, p, q => exact shape_14_2 w a0 a1 x y p1 (by simpa using p) q1 (by simpa using q)
  | 15, 0, _, _, p, q => exact shape_15_0 w a0 a1 x y p1 (by simpa using p) q1 (by simpa using q)
  | 15, 1, _, _, p, q => exact shape_15_1 w a0 a1 x y p1 (by simpa using p) q1 (by simpa using q)
  | 15, 2, _, _, p, q => exact shape_15_2 w a0 a1 x y p1 (by simpa using p) q1 (by simpa using q)
  | 16, 0, _, _, p, q => exact shape_16_0 w a0 a1 x y p1 (by simpa using p) q1 (by simpa using q)
  | 16, 1, _, _, p, q => exact shape_16_1 w a0 a1 x y p1 (by simpa using p) q1 (by simpa using q)
  | 16, 2, _, _, p, q => exact shape_16_2 w a0 a1 x y p1 (by simpa using p) q1 (by simpa using q)
  | 17, 0, _, _, p, q => exact shape_17_0 w a0 a1 x y p1 (by simpa using p) q1 (by simpa using q)
  | 17, 1, _, _, p, q => exact shape_17_1 w a0 a1 x y p1 (by simpa using p) q1 (by simpa using q)
  | 17, 2, _, _, p, q => exact shape_17_2 w a0 a1 x y p1 (by simpa using p) q1 (by simpa using q)
  | i + 18, _, h, _, _, _ => omega
  | _, j + 3, _, h, _, _ => omega
end Go.Proofs.Ytnphimechniplaa
