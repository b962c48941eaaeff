/- Parts of the proof: MayS2. -/
import Derived.Test.YtnbfajmdfkgebaaGreatDoorP13
set_option maxHeartbeats 8000000
set_option maxRecDepth 100000
set_option linter.unusedSimpArgs false
set_option linter.unusedVariables false
namespace Go.Proofs.YtnbfajmdfkgebaaGreatDoor
open Go.RowKit
theorem shape_k4 (w : World) (n : Int) (ty nm : ByteArray) (Ae Aa Ab Ac : Option Addr) (ce ca cb cc : Nat) (e a b c : List Nd) (nth : Int) (hk : Kd w (.st 4 n ty nm (.slice Ae e.length ce) (.slice Aa a.length ca) (.slice Ab b.length cb) (.slice Ac c.length cc) e a b c nth)) (hl1 : e.length ≤ 1000000) (hl2 : a.length ≤ 1000000) (hl3 : b.length ≤ 1000000) (hl4 : c.length ≤ 1000000) :
   Calls Tryz.prog 68 #[.agg #[.int .i64 4, .int .i32 n, .string ty, .string nm, .slice Ae e.length ce, .slice Aa a.length ca, .slice Ab b.length cb, .slice Ac c.length cc, .int .i64 nth]] w fun r w' => r = .returned (.bool (shpB 4 n ty nm e a.length b.length c.length)) ∧ Below w.heap.size w w' := by
 rw [Kd] at hk
 obtain ⟨W, hW⟩ : ∃ W, w.alloc (.cells #[.int .i64 4, .int .i32 n, .string ty, .string nm, .slice Ae e.length ce, .slice Aa a.length ca, .slice Ab b.length cb, .slice Ac c.length cc, .int .i64 nth] 118) = W := ⟨_, rfl⟩
 have hb : Below w.heap.size w W := by rw [← hW]; exact (Below.refl _ w).alloc (Nat.le_refl _) _
 have hx : Bx W w.heap.size #[.int .i64 4, .int .i32 n, .string ty, .string nm, .slice Ae e.length ce, .slice Aa a.length ca, .slice Ab b.length cb, .slice Ac c.length cc, .int .i64 nth] 118 := by rw [← hW]; exact Bx.new _ _ _
 have HW := Lib.hid hb
 have HX := Lib.hid hx
 obtain ⟨r, hr⟩ : ∃ r, shpB 4 n ty nm e a.length b.length c.length = r := ⟨_, rfl⟩
 rw [hr]
 have hB : Below W.heap.size W W := Below.refl _ _
 obtain ⟨qa, hqa⟩ : ∃ q, ((a.length : Int) == 0) = q := ⟨_, rfl⟩
 obtain ⟨qb, hqb⟩ : ∃ q, ((b.length : Int) == 0) = q := ⟨_, rfl⟩
 obtain ⟨qc, hqc⟩ : ∃ q, ((c.length : Int) == 0) = q := ⟨_, rfl⟩
 obtain ⟨qty, hqty⟩ : ∃ q, ty.toList.isEmpty = q := ⟨_, rfl⟩
 obtain ⟨qnm, hqnm⟩ : ∃ q, nm.toList.isEmpty = q := ⟨_, rfl⟩
 obtain ⟨qz, hqz⟩ : ∃ q, (n == 0) = q := ⟨_, rfl⟩
 have e1 : decide (a.length = 0) = qa := by rw [← hqa, Bool.eq_iff_iff]; simp
 have e2 : decide (b.length = 0) = qb := by rw [← hqb, Bool.eq_iff_iff]; simp
 have e3 : decide (c.length = 0) = qc := by rw [← hqc, Bool.eq_iff_iff]; simp
 have e4 : emp ty = qty := hqty
 have e5 : emp nm = qnm := hqnm
 have e6 : decide (n = 0) = qz := hqz
 obtain ⟨qe, hqe⟩ : ∃ q, ((e.length : Int) == 1) = q := ⟨_, rfl⟩
 have e7 : decide (e.length = 1) = qe := by rw [← hqe, Bool.eq_iff_iff]; simp; try omega
 simp only [shpB, numS, typeS, nameS, exprsS, lenS, e1, e2, e3, e4, e5, e6, e7] at hr
 simp [e1, e2, e3, e4, e5, e6, e7] at hr
 have HR := Lib.hid hr
 obtain ⟨x0, x1, x2, x3, x4, x5, x6, x7, _⟩ := hx.get_9
 clear hr hb hx hk e1 e2 e3 e4 e5 e6 e7
 go_enter Tryz.func68, Tryz.ntmps68
 go_wp2_with fail
 go_quiet (fail)
 have hB := below_drewN hB nq
 go_wp2_with fail
 all_goals
   go_ret
   exact ⟨ret_bool (by rw [← HR.out]; simp [*]), HW.out.trans (hB.mono HW.out.size)⟩
theorem shape_k5 (w : World) (n : Int) (ty nm : ByteArray) (Ae Aa Ab Ac : Option Addr) (ce ca cb cc : Nat) (e a b c : List Nd) (nth : Int) (hk : Kd w (.st 5 n ty nm (.slice Ae e.length ce) (.slice Aa a.length ca) (.slice Ab b.length cb) (.slice Ac c.length cc) e a b c nth)) (hl1 : e.length ≤ 1000000) (hl2 : a.length ≤ 1000000) (hl3 : b.length ≤ 1000000) (hl4 : c.length ≤ 1000000) :
   Calls Tryz.prog 68 #[.agg #[.int .i64 5, .int .i32 n, .string ty, .string nm, .slice Ae e.length ce, .slice Aa a.length ca, .slice Ab b.length cb, .slice Ac c.length cc, .int .i64 nth]] w fun r w' => r = .returned (.bool (shpB 5 n ty nm e a.length b.length c.length)) ∧ Below w.heap.size w w' := by
 rw [Kd] at hk
 obtain ⟨W, hW⟩ : ∃ W, w.alloc (.cells #[.int .i64 5, .int .i32 n, .string ty, .string nm, .slice Ae e.length ce, .slice Aa a.length ca, .slice Ab b.length cb, .slice Ac c.length cc, .int .i64 nth] 118) = W := ⟨_, rfl⟩
 have hb : Below w.heap.size w W := by rw [← hW]; exact (Below.refl _ w).alloc (Nat.le_refl _) _
 have hx : Bx W w.heap.size #[.int .i64 5, .int .i32 n, .string ty, .string nm, .slice Ae e.length ce, .slice Aa a.length ca, .slice Ab b.length cb, .slice Ac c.length cc, .int .i64 nth] 118 := by rw [← hW]; exact Bx.new _ _ _
 have HW := Lib.hid hb
 have HX := Lib.hid hx
 obtain ⟨r, hr⟩ : ∃ r, shpB 5 n ty nm e a.length b.length c.length = r := ⟨_, rfl⟩
 rw [hr]
 have hB : Below W.heap.size W W := Below.refl _ _
 obtain ⟨qa, hqa⟩ : ∃ q, ((a.length : Int) == 0) = q := ⟨_, rfl⟩
 obtain ⟨qb, hqb⟩ : ∃ q, ((b.length : Int) == 0) = q := ⟨_, rfl⟩
 obtain ⟨qc, hqc⟩ : ∃ q, ((c.length : Int) == 0) = q := ⟨_, rfl⟩
 obtain ⟨qty, hqty⟩ : ∃ q, ty.toList.isEmpty = q := ⟨_, rfl⟩
 obtain ⟨qnm, hqnm⟩ : ∃ q, nm.toList.isEmpty = q := ⟨_, rfl⟩
 obtain ⟨qz, hqz⟩ : ∃ q, (n == 0) = q := ⟨_, rfl⟩
 have e1 : decide (a.length = 0) = qa := by rw [← hqa, Bool.eq_iff_iff]; simp
 have e2 : decide (b.length = 0) = qb := by rw [← hqb, Bool.eq_iff_iff]; simp
 have e3 : decide (c.length = 0) = qc := by rw [← hqc, Bool.eq_iff_iff]; simp
 have e4 : emp ty = qty := hqty
 have e5 : emp nm = qnm := hqnm
 have e6 : decide (n = 0) = qz := hqz
 obtain ⟨qe, hqe⟩ : ∃ q, ((e.length : Int) == 1) = q := ⟨_, rfl⟩
 have e7 : decide (e.length = 1) = qe := by rw [← hqe, Bool.eq_iff_iff]; simp; try omega
 simp only [shpB, numS, typeS, nameS, exprsS, lenS, e1, e2, e3, e4, e5, e6, e7] at hr
 simp [e1, e2, e3, e4, e5, e6, e7] at hr
 have HR := Lib.hid hr
 obtain ⟨x0, x1, x2, x3, x4, x5, x6, x7, _⟩ := hx.get_9
 clear hr hb hx hk e1 e2 e3 e4 e5 e6 e7
 go_enter Tryz.func68, Tryz.ntmps68
 go_wp2_with fail
 go_quiet (fail)
 have hB := below_drewN hB nq
 go_wp2_with fail
 all_goals
   go_ret
   exact ⟨ret_bool (by rw [← HR.out]; simp [*]), HW.out.trans (hB.mono HW.out.size)⟩
theorem shape_k6 (w : World) (n : Int) (ty nm : ByteArray) (Ae Aa Ab Ac : Option Addr) (ce ca cb cc : Nat) (e a b c : List Nd) (nth : Int) (hk : Kd w (.st 6 n ty nm (.slice Ae e.length ce) (.slice Aa a.length ca) (.slice Ab b.length cb) (.slice Ac c.length cc) e a b c nth)) (hl1 : e.length ≤ 1000000) (hl2 : a.length ≤ 1000000) (hl3 : b.length ≤ 1000000) (hl4 : c.length ≤ 1000000) :
   Calls Tryz.prog 68 #[.agg #[.int .i64 6, .int .i32 n, .string ty, .string nm, .slice Ae e.length ce, .slice Aa a.length ca, .slice Ab b.length cb, .slice Ac c.length cc, .int .i64 nth]] w fun r w' => r = .returned (.bool (shpB 6 n ty nm e a.length b.length c.length)) ∧ Below w.heap.size w w' := by
 rw [Kd] at hk
 obtain ⟨W, hW⟩ : ∃ W, w.alloc (.cells #[.int .i64 6, .int .i32 n, .string ty, .string nm, .slice Ae e.length ce, .slice Aa a.length ca, .slice Ab b.length cb, .slice Ac c.length cc, .int .i64 nth] 118) = W := ⟨_, rfl⟩
 have hb : Below w.heap.size w W := by rw [← hW]; exact (Below.refl _ w).alloc (Nat.le_refl _) _
 have hx : Bx W w.heap.size #[.int .i64 6, .int .i32 n, .string ty, .string nm, .slice Ae e.length ce, .slice Aa a.length ca, .slice Ab b.length cb, .slice Ac c.length cc, .int .i64 nth] 118 := by rw [← hW]; exact Bx.new _ _ _
 have HW := Lib.hid hb
 have HX := Lib.hid hx
 obtain ⟨r, hr⟩ : ∃ r, shpB 6 n ty nm e a.length b.length c.length = r := ⟨_, rfl⟩
 rw [hr]
 have hB : Below W.heap.size W W := Below.refl _ _
 obtain ⟨qa, hqa⟩ : ∃ q, ((a.length : Int) == 0) = q := ⟨_, rfl⟩
 obtain ⟨qb, hqb⟩ : ∃ q, ((b.length : Int) == 0) = q := ⟨_, rfl⟩
 obtain ⟨qc, hqc⟩ : ∃ q, ((c.length : Int) == 0) = q := ⟨_, rfl⟩
 obtain ⟨qty, hqty⟩ : ∃ q, ty.toList.isEmpty = q := ⟨_, rfl⟩
 obtain ⟨qnm, hqnm⟩ : ∃ q, nm.toList.isEmpty = q := ⟨_, rfl⟩
 obtain ⟨qz, hqz⟩ : ∃ q, (n == 0) = q := ⟨_, rfl⟩
 have e1 : decide (a.length = 0) = qa := by rw [← hqa, Bool.eq_iff_iff]; simp
 have e2 : decide (b.length = 0) = qb := by rw [← hqb, Bool.eq_iff_iff]; simp
 have e3 : decide (c.length = 0) = qc := by rw [← hqc, Bool.eq_iff_iff]; simp
 have e4 : emp ty = qty := hqty
 have e5 : emp nm = qnm := hqnm
 have e6 : decide (n = 0) = qz := hqz
 obtain ⟨qe, hqe⟩ : ∃ q, decide ((e.length : Int) ≤ 1) = q := ⟨_, rfl⟩
 have e7 : decide (e.length ≤ 1) = qe := by rw [← hqe, decide_eq_decide]; omega
 simp only [shpB, numS, typeS, nameS, exprsS, lenS, e1, e2, e3, e4, e5, e6, e7] at hr
 simp [e1, e2, e3, e4, e5, e6, e7] at hr
 have HR := Lib.hid hr
 obtain ⟨x0, x1, x2, x3, x4, x5, x6, x7, _⟩ := hx.get_9
 clear hr hb hx hk e1 e2 e3 e4 e5 e6 e7
 go_enter Tryz.func68, Tryz.ntmps68
 go_wp2_with fail
 go_quiet (fail)
 have hB := below_drewN hB nq
 go_wp2_with fail
 all_goals
   go_ret
   exact ⟨ret_bool (by rw [← HR.out]; simp [*]), HW.out.trans (hB.mono HW.out.size)⟩
theorem shape_k7 (w : World) (n : Int) (ty nm : ByteArray) (Ae Aa Ab Ac : Option Addr) (ce ca cb cc : Nat) (e a b c : List Nd) (nth : Int) (hk : Kd w (.st 7 n ty nm (.slice Ae e.length ce) (.slice Aa a.length ca) (.slice Ab b.length cb) (.slice Ac c.length cc) e a b c nth)) (hl1 : e.length ≤ 1000000) (hl2 : a.length ≤ 1000000) (hl3 : b.length ≤ 1000000) (hl4 : c.length ≤ 1000000) :
   Calls Tryz.prog 68 #[.agg #[.int .i64 7, .int .i32 n, .string ty, .string nm, .slice Ae e.length ce, .slice Aa a.length ca, .slice Ab b.length cb, .slice Ac c.length cc, .int .i64 nth]] w fun r w' => r = .returned (.bool (shpB 7 n ty nm e a.length b.length c.length)) ∧ Below w.heap.size w w' := by
 rw [Kd] at hk
 obtain ⟨W, hW⟩ : ∃ W, w.alloc (.cells #[.int .i64 7, .int .i32 n, .string ty, .string nm, .slice Ae e.length ce, .slice Aa a.length ca, .slice Ab b.length cb, .slice Ac c.length cc, .int .i64 nth] 118) = W := ⟨_, rfl⟩
 have hb : Below w.heap.size w W := by rw [← hW]; exact (Below.refl _ w).alloc (Nat.le_refl _) _
 have hx : Bx W w.heap.size #[.int .i64 7, .int .i32 n, .string ty, .string nm, .slice Ae e.length ce, .slice Aa a.length ca, .slice Ab b.length cb, .slice Ac c.length cc, .int .i64 nth] 118 := by rw [← hW]; exact Bx.new _ _ _
 have HW := Lib.hid hb
 have HX := Lib.hid hx
 obtain ⟨r, hr⟩ : ∃ r, shpB 7 n ty nm e a.length b.length c.length = r := ⟨_, rfl⟩
 rw [hr]
 have hB : Below W.heap.size W W := Below.refl _ _
 obtain ⟨qa, hqa⟩ : ∃ q, ((a.length : Int) == 0) = q := ⟨_, rfl⟩
 obtain ⟨qb, hqb⟩ : ∃ q, ((b.length : Int) == 0) = q := ⟨_, rfl⟩
 obtain ⟨qc, hqc⟩ : ∃ q, ((c.length : Int) == 0) = q := ⟨_, rfl⟩
 obtain ⟨qty, hqty⟩ : ∃ q, ty.toList.isEmpty = q := ⟨_, rfl⟩
 obtain ⟨qnm, hqnm⟩ : ∃ q, nm.toList.isEmpty = q := ⟨_, rfl⟩
 obtain ⟨qz, hqz⟩ : ∃ q, (n == 0) = q := ⟨_, rfl⟩
 have e1 : decide (a.length = 0) = qa := by rw [← hqa, Bool.eq_iff_iff]; simp
 have e2 : decide (b.length = 0) = qb := by rw [← hqb, Bool.eq_iff_iff]; simp
 have e3 : decide (c.length = 0) = qc := by rw [← hqc, Bool.eq_iff_iff]; simp
 have e4 : emp ty = qty := hqty
 have e5 : emp nm = qnm := hqnm
 have e6 : decide (n = 0) = qz := hqz
 obtain ⟨qe, hqe⟩ : ∃ q, ((e.length : Int) == 1) = q := ⟨_, rfl⟩
 have e7 : decide (e.length = 1) = qe := by rw [← hqe, Bool.eq_iff_iff]; simp; try omega
 simp only [shpB, numS, typeS, nameS, exprsS, lenS, e1, e2, e3, e4, e5, e6, e7] at hr
 simp [e1, e2, e3, e4, e5, e6, e7] at hr
 have HR := Lib.hid hr
 obtain ⟨x0, x1, x2, x3, x4, x5, x6, x7, _⟩ := hx.get_9
 clear hr hb hx hk e1 e2 e3 e4 e5 e6 e7
 go_enter Tryz.func68, Tryz.ntmps68
 go_wp2_with fail
 go_quiet (fail)
 have hB := below_drewN hB nq
 go_wp2_with fail
 all_goals
   go_ret
   exact ⟨ret_bool (by rw [← HR.out]; simp [*]), HW.out.trans (hB.mono HW.out.size)⟩
end Go.Proofs.YtnbfajmdfkgebaaGreatDoor
