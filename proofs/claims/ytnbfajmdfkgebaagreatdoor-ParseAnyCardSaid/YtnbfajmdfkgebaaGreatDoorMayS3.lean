/- Parts of the proof: MayS3. -/
import Derived.Test.YtnbfajmdfkgebaaGreatDoorP13
set_option maxHeartbeats 8000000
set_option maxRecDepth 100000
set_option linter.unusedSimpArgs false
set_option linter.unusedVariables false
namespace Go.Proofs.YtnbfajmdfkgebaaGreatDoor
open Go.RowKit
theorem shape_k8 (w : World) (n : Int) (ty nm : ByteArray) (Ae Aa Ab Ac : Option Addr) (ce ca cb cc : Nat) (e a b c : List Nd) (nth : Int) (hk : Kd w (.st 8 n ty nm (.slice Ae e.length ce) (.slice Aa a.length ca) (.slice Ab b.length cb) (.slice Ac c.length cc) e a b c nth)) (hl1 : e.length ≤ 1000000) (hl2 : a.length ≤ 1000000) (hl3 : b.length ≤ 1000000) (hl4 : c.length ≤ 1000000) :
   Calls Tryz.prog 68 #[.agg #[.int .i64 8, .int .i32 n, .string ty, .string nm, .slice Ae e.length ce, .slice Aa a.length ca, .slice Ab b.length cb, .slice Ac c.length cc, .int .i64 nth]] w fun r w' => r = .returned (.bool (shpB 8 n ty nm e a.length b.length c.length)) ∧ Below w.heap.size w w' := by
 rw [Kd] at hk
 obtain ⟨W, hW⟩ : ∃ W, w.alloc (.cells #[.int .i64 8, .int .i32 n, .string ty, .string nm, .slice Ae e.length ce, .slice Aa a.length ca, .slice Ab b.length cb, .slice Ac c.length cc, .int .i64 nth] 118) = W := ⟨_, rfl⟩
 have hb : Below w.heap.size w W := by rw [← hW]; exact (Below.refl _ w).alloc (Nat.le_refl _) _
 have hx : Bx W w.heap.size #[.int .i64 8, .int .i32 n, .string ty, .string nm, .slice Ae e.length ce, .slice Aa a.length ca, .slice Ab b.length cb, .slice Ac c.length cc, .int .i64 nth] 118 := by rw [← hW]; exact Bx.new _ _ _
 have HW := Lib.hid hb
 have HX := Lib.hid hx
 obtain ⟨r, hr⟩ : ∃ r, shpB 8 n ty nm e a.length b.length c.length = r := ⟨_, rfl⟩
 rw [hr]
 have hB : Below W.heap.size W W := Below.refl _ _
 obtain ⟨qa, hqa⟩ : ∃ q, ((a.length : Int) == 0) = q := ⟨_, rfl⟩
 obtain ⟨qb, hqb⟩ : ∃ q, ((b.length : Int) == 0) = q := ⟨_, rfl⟩
 obtain ⟨qc, hqc⟩ : ∃ q, ((c.length : Int) == 0) = q := ⟨_, rfl⟩
 obtain ⟨qty, hqty⟩ : ∃ q, ty.toList.isEmpty = q := ⟨_, rfl⟩
 obtain ⟨qnm, hqnm⟩ : ∃ q, nm.toList.isEmpty = q := ⟨_, rfl⟩
 obtain ⟨qz, hqz⟩ : ∃ q, (n == 0) = q := ⟨_, rfl⟩
 have e1 : decide (a.length = 0) = qa := by rw [← hqa, Bool.eq_iff_iff]; simp
 have e2 : decide (b.length = 0) = qb := by rw [← hqb, Bool.eq_iff_iff]; simp
 have e3 : decide (c.length = 0) = qc := by rw [← hqc, Bool.eq_iff_iff]; simp
 have e4 : emp ty = qty := hqty
 have e5 : emp nm = qnm := hqnm
 have e6 : decide (n = 0) = qz := hqz
 obtain ⟨qe, hqe⟩ : ∃ q, ((e.length : Int) == 1) = q := ⟨_, rfl⟩
 have e7 : decide (e.length = 1) = qe := by rw [← hqe, Bool.eq_iff_iff]; simp; try omega
 obtain ⟨qy, hqy⟩ : ∃ q, decide (0 ≤ n) = q := ⟨_, rfl⟩
 obtain ⟨qx, hqx⟩ : ∃ q, decide (n ≤ 9999) = q := ⟨_, rfl⟩
 simp only [shpB, numS, typeS, nameS, exprsS, lenS, e1, e2, e3, e4, e5, e6, e7, hqy, hqx] at hr
 simp [e1, e2, e3, e4, e5, e6, e7, hqy, hqx] at hr
 have HR := Lib.hid hr
 obtain ⟨x0, x1, x2, x3, x4, x5, x6, x7, _⟩ := hx.get_9
 clear hr hb hx hk e1 e2 e3 e4 e5 e6 e7
 go_enter Tryz.func68, Tryz.ntmps68
 go_wp2_with fail
 go_quiet (fail)
 have hB := below_drewN hB nq
 go_wp2_with fail
 all_goals
   go_ret
   exact ⟨ret_bool (by rw [← HR.out]; simp [*]), HW.out.trans (hB.mono HW.out.size)⟩
theorem shape_k9 (w : World) (n : Int) (ty nm : ByteArray) (Ae Aa Ab Ac : Option Addr) (ce ca cb cc : Nat) (e a b c : List Nd) (nth : Int) (hk : Kd w (.st 9 n ty nm (.slice Ae e.length ce) (.slice Aa a.length ca) (.slice Ab b.length cb) (.slice Ac c.length cc) e a b c nth)) (hl1 : e.length ≤ 1000000) (hl2 : a.length ≤ 1000000) (hl3 : b.length ≤ 1000000) (hl4 : c.length ≤ 1000000) :
   Calls Tryz.prog 68 #[.agg #[.int .i64 9, .int .i32 n, .string ty, .string nm, .slice Ae e.length ce, .slice Aa a.length ca, .slice Ab b.length cb, .slice Ac c.length cc, .int .i64 nth]] w fun r w' => r = .returned (.bool (shpB 9 n ty nm e a.length b.length c.length)) ∧ Below w.heap.size w w' := by
 rw [Kd] at hk
 obtain ⟨W, hW⟩ : ∃ W, w.alloc (.cells #[.int .i64 9, .int .i32 n, .string ty, .string nm, .slice Ae e.length ce, .slice Aa a.length ca, .slice Ab b.length cb, .slice Ac c.length cc, .int .i64 nth] 118) = W := ⟨_, rfl⟩
 have hb : Below w.heap.size w W := by rw [← hW]; exact (Below.refl _ w).alloc (Nat.le_refl _) _
 have hx : Bx W w.heap.size #[.int .i64 9, .int .i32 n, .string ty, .string nm, .slice Ae e.length ce, .slice Aa a.length ca, .slice Ab b.length cb, .slice Ac c.length cc, .int .i64 nth] 118 := by rw [← hW]; exact Bx.new _ _ _
 have HW := Lib.hid hb
 have HX := Lib.hid hx
 obtain ⟨r, hr⟩ : ∃ r, shpB 9 n ty nm e a.length b.length c.length = r := ⟨_, rfl⟩
 rw [hr]
 have hB : Below W.heap.size W W := Below.refl _ _
 obtain ⟨qa, hqa⟩ : ∃ q, ((a.length : Int) == 0) = q := ⟨_, rfl⟩
 obtain ⟨qb, hqb⟩ : ∃ q, ((b.length : Int) == 0) = q := ⟨_, rfl⟩
 obtain ⟨qc, hqc⟩ : ∃ q, ((c.length : Int) == 0) = q := ⟨_, rfl⟩
 obtain ⟨qty, hqty⟩ : ∃ q, ty.toList.isEmpty = q := ⟨_, rfl⟩
 obtain ⟨qnm, hqnm⟩ : ∃ q, nm.toList.isEmpty = q := ⟨_, rfl⟩
 obtain ⟨qz, hqz⟩ : ∃ q, (n == 0) = q := ⟨_, rfl⟩
 have e1 : decide (a.length = 0) = qa := by rw [← hqa, Bool.eq_iff_iff]; simp
 have e2 : decide (b.length = 0) = qb := by rw [← hqb, Bool.eq_iff_iff]; simp
 have e3 : decide (c.length = 0) = qc := by rw [← hqc, Bool.eq_iff_iff]; simp
 have e4 : emp ty = qty := hqty
 have e5 : emp nm = qnm := hqnm
 have e6 : decide (n = 0) = qz := hqz
 obtain ⟨qe, hqe⟩ : ∃ q, ((e.length : Int) == 1) = q := ⟨_, rfl⟩
 have e7 : decide (e.length = 1) = qe := by rw [← hqe, Bool.eq_iff_iff]; simp; try omega
 simp only [shpB, numS, typeS, nameS, exprsS, lenS, e1, e2, e3, e4, e5, e6, e7] at hr
 simp [e1, e2, e3, e4, e5, e6, e7] at hr
 have HR := Lib.hid hr
 obtain ⟨x0, x1, x2, x3, x4, x5, x6, x7, _⟩ := hx.get_9
 clear hr hb hx hk e1 e2 e3 e4 e5 e6 e7
 go_enter Tryz.func68, Tryz.ntmps68
 go_wp2_with fail
 go_quiet (fail)
 have hB := below_drewN hB nq
 go_wp2_with fail
 all_goals
   go_ret
   exact ⟨ret_bool (by rw [← HR.out]; simp [*]), HW.out.trans (hB.mono HW.out.size)⟩
theorem shape_k10 (w : World) (n : Int) (ty nm : ByteArray) (Ae Aa Ab Ac : Option Addr) (ce ca cb cc : Nat) (e a b c : List Nd) (nth : Int) (hk : Kd w (.st 10 n ty nm (.slice Ae e.length ce) (.slice Aa a.length ca) (.slice Ab b.length cb) (.slice Ac c.length cc) e a b c nth)) (hl1 : e.length ≤ 1000000) (hl2 : a.length ≤ 1000000) (hl3 : b.length ≤ 1000000) (hl4 : c.length ≤ 1000000) :
   Calls Tryz.prog 68 #[.agg #[.int .i64 10, .int .i32 n, .string ty, .string nm, .slice Ae e.length ce, .slice Aa a.length ca, .slice Ab b.length cb, .slice Ac c.length cc, .int .i64 nth]] w fun r w' => r = .returned (.bool (shpB 10 n ty nm e a.length b.length c.length)) ∧ Below w.heap.size w w' := by
 rw [Kd] at hk
 obtain ⟨W, hW⟩ : ∃ W, w.alloc (.cells #[.int .i64 10, .int .i32 n, .string ty, .string nm, .slice Ae e.length ce, .slice Aa a.length ca, .slice Ab b.length cb, .slice Ac c.length cc, .int .i64 nth] 118) = W := ⟨_, rfl⟩
 have hb : Below w.heap.size w W := by rw [← hW]; exact (Below.refl _ w).alloc (Nat.le_refl _) _
 have hx : Bx W w.heap.size #[.int .i64 10, .int .i32 n, .string ty, .string nm, .slice Ae e.length ce, .slice Aa a.length ca, .slice Ab b.length cb, .slice Ac c.length cc, .int .i64 nth] 118 := by rw [← hW]; exact Bx.new _ _ _
 have HW := Lib.hid hb
 have HX := Lib.hid hx
 obtain ⟨r, hr⟩ : ∃ r, shpB 10 n ty nm e a.length b.length c.length = r := ⟨_, rfl⟩
 rw [hr]
 have hB : Below W.heap.size W W := Below.refl _ _
 obtain ⟨qa, hqa⟩ : ∃ q, ((a.length : Int) == 0) = q := ⟨_, rfl⟩
 obtain ⟨qb, hqb⟩ : ∃ q, ((b.length : Int) == 0) = q := ⟨_, rfl⟩
 obtain ⟨qc, hqc⟩ : ∃ q, ((c.length : Int) == 0) = q := ⟨_, rfl⟩
 obtain ⟨qty, hqty⟩ : ∃ q, ty.toList.isEmpty = q := ⟨_, rfl⟩
 obtain ⟨qnm, hqnm⟩ : ∃ q, nm.toList.isEmpty = q := ⟨_, rfl⟩
 obtain ⟨qz, hqz⟩ : ∃ q, (n == 0) = q := ⟨_, rfl⟩
 have e1 : decide (a.length = 0) = qa := by rw [← hqa, Bool.eq_iff_iff]; simp
 have e2 : decide (b.length = 0) = qb := by rw [← hqb, Bool.eq_iff_iff]; simp
 have e3 : decide (c.length = 0) = qc := by rw [← hqc, Bool.eq_iff_iff]; simp
 have e4 : emp ty = qty := hqty
 have e5 : emp nm = qnm := hqnm
 have e6 : decide (n = 0) = qz := hqz
 obtain ⟨qe, hqe⟩ : ∃ q, ((e.length : Int) == 0) = q := ⟨_, rfl⟩
 have e7 : decide (e.length = 0) = qe := by rw [← hqe, Bool.eq_iff_iff]; simp; try omega
 obtain ⟨qt, hqt⟩ : ∃ q, classOk ty = q := ⟨_, rfl⟩
 have CT : Hid (∀ w', Calls Tryz.prog 18 #[.string ty] w' fun r w'' => r = .returned (.bool qt) ∧ w' = w'') := by
   show ∀ w', _
   intro w'; rw [← hqt]; exact rclass_any ty w' hk.1.1
 obtain ⟨qn, hqn⟩ : ∃ q, nameOk nm = q := ⟨_, rfl⟩
 have CN : Hid (∀ w', Calls Tryz.prog 20 #[.string nm] w' fun r w'' => r = .returned (.bool qn) ∧ Below w'.heap.size w' w'') := by
   show ∀ w', _
   intro w'; rw [← hqn]; exact rname_any nm w' hk.1.2
 simp only [shpB, numS, typeS, nameS, exprsS, lenS, e1, e2, e3, e4, e5, e6, e7, hqt, hqn] at hr
 simp [e1, e2, e3, e4, e5, e6, e7, hqt, hqn] at hr
 have HR := Lib.hid hr
 obtain ⟨x0, x1, x2, x3, x4, x5, x6, x7, _⟩ := hx.get_9
 clear hr hb hx hk e1 e2 e3 e4 e5 e6 e7 hqt hqn
 go_enter Tryz.func68, Tryz.ntmps68
 go_wp2_with fail
 go_quiet (fail)
 have hB := below_drewN hB nq
 go_wp2_with (first
   | (go_at_call 18; refine (CT.out _).mono ?_; rintro r wn ⟨rfl, rfl⟩)
   | (go_at_call 20; refine (CN.out _).mono ?_; rintro r wn ⟨rfl, hc⟩; have hB := hB.trans (hc.mono hB.size); clear hc; have x1 := (HX.out.next hB).cell 1; simp only [List.getElem?_toArray, List.getElem?_cons_zero, List.getElem?_cons_succ] at x1))
 all_goals
   go_ret
   exact ⟨ret_bool (by rw [← HR.out]; simp [*]), HW.out.trans (hB.mono HW.out.size)⟩
theorem shape_k11 (w : World) (n : Int) (ty nm : ByteArray) (Ae Aa Ab Ac : Option Addr) (ce ca cb cc : Nat) (e a b c : List Nd) (nth : Int) (hk : Kd w (.st 11 n ty nm (.slice Ae e.length ce) (.slice Aa a.length ca) (.slice Ab b.length cb) (.slice Ac c.length cc) e a b c nth)) (hl1 : e.length ≤ 1000000) (hl2 : a.length ≤ 1000000) (hl3 : b.length ≤ 1000000) (hl4 : c.length ≤ 1000000) :
   Calls Tryz.prog 68 #[.agg #[.int .i64 11, .int .i32 n, .string ty, .string nm, .slice Ae e.length ce, .slice Aa a.length ca, .slice Ab b.length cb, .slice Ac c.length cc, .int .i64 nth]] w fun r w' => r = .returned (.bool (shpB 11 n ty nm e a.length b.length c.length)) ∧ Below w.heap.size w w' := by
 rw [Kd] at hk
 obtain ⟨W, hW⟩ : ∃ W, w.alloc (.cells #[.int .i64 11, .int .i32 n, .string ty, .string nm, .slice Ae e.length ce, .slice Aa a.length ca, .slice Ab b.length cb, .slice Ac c.length cc, .int .i64 nth] 118) = W := ⟨_, rfl⟩
 have hb : Below w.heap.size w W := by rw [← hW]; exact (Below.refl _ w).alloc (Nat.le_refl _) _
 have hx : Bx W w.heap.size #[.int .i64 11, .int .i32 n, .string ty, .string nm, .slice Ae e.length ce, .slice Aa a.length ca, .slice Ab b.length cb, .slice Ac c.length cc, .int .i64 nth] 118 := by rw [← hW]; exact Bx.new _ _ _
 have HW := Lib.hid hb
 have HX := Lib.hid hx
 obtain ⟨r, hr⟩ : ∃ r, shpB 11 n ty nm e a.length b.length c.length = r := ⟨_, rfl⟩
 rw [hr]
 have hB : Below W.heap.size W W := Below.refl _ _
 obtain ⟨qa, hqa⟩ : ∃ q, ((a.length : Int) == 0) = q := ⟨_, rfl⟩
 obtain ⟨qb, hqb⟩ : ∃ q, ((b.length : Int) == 0) = q := ⟨_, rfl⟩
 obtain ⟨qc, hqc⟩ : ∃ q, ((c.length : Int) == 0) = q := ⟨_, rfl⟩
 obtain ⟨qty, hqty⟩ : ∃ q, ty.toList.isEmpty = q := ⟨_, rfl⟩
 obtain ⟨qnm, hqnm⟩ : ∃ q, nm.toList.isEmpty = q := ⟨_, rfl⟩
 obtain ⟨qz, hqz⟩ : ∃ q, (n == 0) = q := ⟨_, rfl⟩
 have e1 : decide (a.length = 0) = qa := by rw [← hqa, Bool.eq_iff_iff]; simp
 have e2 : decide (b.length = 0) = qb := by rw [← hqb, Bool.eq_iff_iff]; simp
 have e3 : decide (c.length = 0) = qc := by rw [← hqc, Bool.eq_iff_iff]; simp
 have e4 : emp ty = qty := hqty
 have e5 : emp nm = qnm := hqnm
 have e6 : decide (n = 0) = qz := hqz
 simp only [shpB, numS, typeS, nameS, exprsS, lenS, e1, e2, e3, e4, e5, e6] at hr
 simp [e1, e2, e3, e4, e5, e6] at hr
 have HR := Lib.hid hr
 obtain ⟨x0, x1, x2, x3, x4, x5, x6, x7, _⟩ := hx.get_9
 clear hr hb hx hk e1 e2 e3 e4 e5 e6
 go_enter Tryz.func68, Tryz.ntmps68
 go_wp2_with fail
 go_quiet (fail)
 have hB := below_drewN hB nq
 go_wp2_with fail
 all_goals
   go_ret
   exact ⟨ret_bool (by rw [← HR.out]; simp [*]), HW.out.trans (hB.mono HW.out.size)⟩
end Go.Proofs.YtnbfajmdfkgebaaGreatDoor
