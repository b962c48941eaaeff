/- Parts of the proof: MayS1. -/
import Derived.Test.YtnbfajmdfkgebaaGreatDoorP13
set_option maxHeartbeats 8000000
set_option maxRecDepth 100000
set_option linter.unusedSimpArgs false
set_option linter.unusedVariables false
namespace Go.Proofs.YtnbfajmdfkgebaaGreatDoor
open Go.RowKit
theorem shape_k1 (w : World) (n : Int) (ty nm : ByteArray) (Ae Aa Ab Ac : Option Addr) (ce ca cb cc : Nat) (e a b c : List Nd) (nth : Int) (hk : Kd w (.st 1 n ty nm (.slice Ae e.length ce) (.slice Aa a.length ca) (.slice Ab b.length cb) (.slice Ac c.length cc) e a b c nth)) (hl1 : e.length ≤ 1000000) (hl2 : a.length ≤ 1000000) (hl3 : b.length ≤ 1000000) (hl4 : c.length ≤ 1000000) :
   Calls Tryz.prog 68 #[.agg #[.int .i64 1, .int .i32 n, .string ty, .string nm, .slice Ae e.length ce, .slice Aa a.length ca, .slice Ab b.length cb, .slice Ac c.length cc, .int .i64 nth]] w fun r w' => r = .returned (.bool (shpB 1 n ty nm e a.length b.length c.length)) ∧ Below w.heap.size w w' := by
 rw [Kd] at hk
 obtain ⟨W, hW⟩ : ∃ W, w.alloc (.cells #[.int .i64 1, .int .i32 n, .string ty, .string nm, .slice Ae e.length ce, .slice Aa a.length ca, .slice Ab b.length cb, .slice Ac c.length cc, .int .i64 nth] 118) = W := ⟨_, rfl⟩
 have hb : Below w.heap.size w W := by rw [← hW]; exact (Below.refl _ w).alloc (Nat.le_refl _) _
 have hx : Bx W w.heap.size #[.int .i64 1, .int .i32 n, .string ty, .string nm, .slice Ae e.length ce, .slice Aa a.length ca, .slice Ab b.length cb, .slice Ac c.length cc, .int .i64 nth] 118 := by rw [← hW]; exact Bx.new _ _ _
 have HW := Lib.hid hb
 have HX := Lib.hid hx
 obtain ⟨r, hr⟩ : ∃ r, shpB 1 n ty nm e a.length b.length c.length = r := ⟨_, rfl⟩
 rw [hr]
 have hB : Below W.heap.size W W := Below.refl _ _
 obtain ⟨qa, hqa⟩ : ∃ q, ((a.length : Int) == 0) = q := ⟨_, rfl⟩
 obtain ⟨qb, hqb⟩ : ∃ q, ((b.length : Int) == 0) = q := ⟨_, rfl⟩
 obtain ⟨qc, hqc⟩ : ∃ q, ((c.length : Int) == 0) = q := ⟨_, rfl⟩
 obtain ⟨qty, hqty⟩ : ∃ q, ty.toList.isEmpty = q := ⟨_, rfl⟩
 obtain ⟨qnm, hqnm⟩ : ∃ q, nm.toList.isEmpty = q := ⟨_, rfl⟩
 obtain ⟨qz, hqz⟩ : ∃ q, (n == 0) = q := ⟨_, rfl⟩
 have e1 : decide (a.length = 0) = qa := by rw [← hqa, Bool.eq_iff_iff]; simp
 have e2 : decide (b.length = 0) = qb := by rw [← hqb, Bool.eq_iff_iff]; simp
 have e3 : decide (c.length = 0) = qc := by rw [← hqc, Bool.eq_iff_iff]; simp
 have e4 : emp ty = qty := hqty
 have e5 : emp nm = qnm := hqnm
 have e6 : decide (n = 0) = qz := hqz
 obtain ⟨qe, hqe⟩ : ∃ q, ((e.length : Int) == 1) = q := ⟨_, rfl⟩
 have e7 : decide (e.length = 1) = qe := by rw [← hqe, Bool.eq_iff_iff]; simp; try omega
 obtain ⟨qt, hqt⟩ : ∃ q, valT ty = q := ⟨_, rfl⟩
 have CT : Hid (∀ w', Calls Tryz.prog 19 #[.string ty] w' fun r w'' => r = .returned (.bool qt) ∧ w' = w'') := by
   show ∀ w', _
   intro w'; rw [← hqt]; exact rtype_any ty w' hk.1.1
 obtain ⟨qn, hqn⟩ : ∃ q, nameOk nm = q := ⟨_, rfl⟩
 have CN : Hid (∀ w', Calls Tryz.prog 20 #[.string nm] w' fun r w'' => r = .returned (.bool qn) ∧ Below w'.heap.size w' w'') := by
   show ∀ w', _
   intro w'; rw [← hqn]; exact rname_any nm w' hk.1.2
 simp only [shpB, numS, typeS, nameS, exprsS, lenS, e1, e2, e3, e4, e5, e6, e7, hqt, hqn] at hr
 simp [e1, e2, e3, e4, e5, e6, e7, hqt, hqn] at hr
 have HR := Lib.hid hr
 obtain ⟨x0, x1, x2, x3, x4, x5, x6, x7, _⟩ := hx.get_9
 clear hr hb hx hk e1 e2 e3 e4 e5 e6 e7 hqt hqn
 go_enter Tryz.func68, Tryz.ntmps68
 go_wp2_with fail
 go_quiet (fail)
 have hB := below_drewN hB nq
 go_wp2_with (first
   | (go_at_call 19; refine (CT.out _).mono ?_; rintro r wn ⟨rfl, rfl⟩)
   | (go_at_call 20; refine (CN.out _).mono ?_; rintro r wn ⟨rfl, hc⟩; have hB := hB.trans (hc.mono hB.size); clear hc; have x1 := (HX.out.next hB).cell 1; simp only [List.getElem?_toArray, List.getElem?_cons_zero, List.getElem?_cons_succ] at x1))
 all_goals
   go_ret
   exact ⟨ret_bool (by rw [← HR.out]; simp [*]), HW.out.trans (hB.mono HW.out.size)⟩
theorem shape_k2 (w : World) (n : Int) (ty nm : ByteArray) (Ae Aa Ab Ac : Option Addr) (ce ca cb cc : Nat) (e a b c : List Nd) (nth : Int) (hk : Kd w (.st 2 n ty nm (.slice Ae e.length ce) (.slice Aa a.length ca) (.slice Ab b.length cb) (.slice Ac c.length cc) e a b c nth)) (hl1 : e.length ≤ 1000000) (hl2 : a.length ≤ 1000000) (hl3 : b.length ≤ 1000000) (hl4 : c.length ≤ 1000000) :
   Calls Tryz.prog 68 #[.agg #[.int .i64 2, .int .i32 n, .string ty, .string nm, .slice Ae e.length ce, .slice Aa a.length ca, .slice Ab b.length cb, .slice Ac c.length cc, .int .i64 nth]] w fun r w' => r = .returned (.bool (shpB 2 n ty nm e a.length b.length c.length)) ∧ Below w.heap.size w w' := by
 rw [Kd] at hk
 obtain ⟨W, hW⟩ : ∃ W, w.alloc (.cells #[.int .i64 2, .int .i32 n, .string ty, .string nm, .slice Ae e.length ce, .slice Aa a.length ca, .slice Ab b.length cb, .slice Ac c.length cc, .int .i64 nth] 118) = W := ⟨_, rfl⟩
 have hb : Below w.heap.size w W := by rw [← hW]; exact (Below.refl _ w).alloc (Nat.le_refl _) _
 have hx : Bx W w.heap.size #[.int .i64 2, .int .i32 n, .string ty, .string nm, .slice Ae e.length ce, .slice Aa a.length ca, .slice Ab b.length cb, .slice Ac c.length cc, .int .i64 nth] 118 := by rw [← hW]; exact Bx.new _ _ _
 have HW := Lib.hid hb
 have HX := Lib.hid hx
 obtain ⟨r, hr⟩ : ∃ r, shpB 2 n ty nm e a.length b.length c.length = r := ⟨_, rfl⟩
 rw [hr]
 have hB : Below W.heap.size W W := Below.refl _ _
 obtain ⟨qa, hqa⟩ : ∃ q, ((a.length : Int) == 0) = q := ⟨_, rfl⟩
 obtain ⟨qb, hqb⟩ : ∃ q, ((b.length : Int) == 0) = q := ⟨_, rfl⟩
 obtain ⟨qc, hqc⟩ : ∃ q, ((c.length : Int) == 0) = q := ⟨_, rfl⟩
 obtain ⟨qty, hqty⟩ : ∃ q, ty.toList.isEmpty = q := ⟨_, rfl⟩
 obtain ⟨qnm, hqnm⟩ : ∃ q, nm.toList.isEmpty = q := ⟨_, rfl⟩
 obtain ⟨qz, hqz⟩ : ∃ q, (n == 0) = q := ⟨_, rfl⟩
 have e1 : decide (a.length = 0) = qa := by rw [← hqa, Bool.eq_iff_iff]; simp
 have e2 : decide (b.length = 0) = qb := by rw [← hqb, Bool.eq_iff_iff]; simp
 have e3 : decide (c.length = 0) = qc := by rw [← hqc, Bool.eq_iff_iff]; simp
 have e4 : emp ty = qty := hqty
 have e5 : emp nm = qnm := hqnm
 have e6 : decide (n = 0) = qz := hqz
 obtain ⟨qe, hqe⟩ : ∃ q, ((e.length : Int) == 2) = q := ⟨_, rfl⟩
 have e7 : decide (e.length = 2) = qe := by rw [← hqe, Bool.eq_iff_iff]; simp; try omega
 by_cases he : e.length = 2
 case neg =>
   have hqe0 : qe = false := by rw [← e7]; exact decide_eq_false he
   have HF := Lib.hid (show r = false by rw [← hr]; simp [shpB, exprsS, he])
   obtain ⟨x0, x1, x2, x3, x4, x5, x6, x7, _⟩ := hx.get_9
   clear hr hb hx hk e1 e2 e3 e4 e5 e6 e7
   subst hqe0
   go_enter Tryz.func68, Tryz.ntmps68
   go_wp2_with fail
   go_quiet (fail)
   have hB2 := below_drewN hB nq
   go_wp2_with fail
   all_goals
     go_ret
     exact ⟨ret_bool HF.out.symm, HW.out.trans (hB2.mono HW.out.size)⟩
 obtain ⟨g, go, x, rfl, hx0, hxt, hcx⟩ := (hk.2.1.1.keep (Keep.below hb)).get (show 0 < e.length by omega)
 cases x <;> first | (simp [Nd.tag] at hxt; done) | skip
 rename_i xk xn xtx xnm xty xv xl xown xnth
 have z0 := hcx 0 _ rfl
 simp only [Nat.zero_mul, Nat.add_zero] at z0
 obtain ⟨qh, hqh⟩ : ∃ q, setB xk = q := ⟨_, rfl⟩
 have e8 : setB (headK e) = qh := by
   rw [← hqh]
   cases e with
   | nil => simp at he
   | cons y e => simp at hx0; subst hx0; rfl
 have CH : Hid (∀ w', Calls Tryz.prog 99 #[.int .i64 xk] w' fun r w'' => r = .returned (.bool qh) ∧ w' = w'') := by
   show ∀ w', _
   intro w'; rw [← hqh]; exact rleft_any xk w'
 have hlt0 : (0 : Int) < (e.length : Int) := by omega
 simp only [shpB, numS, typeS, nameS, exprsS, lenS, e1, e2, e3, e4, e5, e6, e7, e8] at hr
 simp [e1, e2, e3, e4, e5, e6, e7, e8] at hr
 have HR := Lib.hid hr
 obtain ⟨x0, x1, x2, x3, x4, x5, x6, x7, _⟩ := hx.get_9
 clear hr hb hx hk e1 e2 e3 e4 e5 e6 e7 hqh hxt hcx hx0 he e8
 go_enter Tryz.func68, Tryz.ntmps68
 go_wp2_with fail
 go_quiet (fail)
 have hB := below_drewN hB nq
 go_wp2_with (first
   | (go_at_call 99; refine (CH.out _).mono ?_; rintro r wn ⟨rfl, rfl⟩))
 all_goals
   go_ret
   exact ⟨ret_bool (by rw [← HR.out]; simp [*]), HW.out.trans (hB.mono HW.out.size)⟩
theorem shape_k3 (w : World) (n : Int) (ty nm : ByteArray) (Ae Aa Ab Ac : Option Addr) (ce ca cb cc : Nat) (e a b c : List Nd) (nth : Int) (hk : Kd w (.st 3 n ty nm (.slice Ae e.length ce) (.slice Aa a.length ca) (.slice Ab b.length cb) (.slice Ac c.length cc) e a b c nth)) (hl1 : e.length ≤ 1000000) (hl2 : a.length ≤ 1000000) (hl3 : b.length ≤ 1000000) (hl4 : c.length ≤ 1000000) :
   Calls Tryz.prog 68 #[.agg #[.int .i64 3, .int .i32 n, .string ty, .string nm, .slice Ae e.length ce, .slice Aa a.length ca, .slice Ab b.length cb, .slice Ac c.length cc, .int .i64 nth]] w fun r w' => r = .returned (.bool (shpB 3 n ty nm e a.length b.length c.length)) ∧ Below w.heap.size w w' := by
 rw [Kd] at hk
 obtain ⟨W, hW⟩ : ∃ W, w.alloc (.cells #[.int .i64 3, .int .i32 n, .string ty, .string nm, .slice Ae e.length ce, .slice Aa a.length ca, .slice Ab b.length cb, .slice Ac c.length cc, .int .i64 nth] 118) = W := ⟨_, rfl⟩
 have hb : Below w.heap.size w W := by rw [← hW]; exact (Below.refl _ w).alloc (Nat.le_refl _) _
 have hx : Bx W w.heap.size #[.int .i64 3, .int .i32 n, .string ty, .string nm, .slice Ae e.length ce, .slice Aa a.length ca, .slice Ab b.length cb, .slice Ac c.length cc, .int .i64 nth] 118 := by rw [← hW]; exact Bx.new _ _ _
 have HW := Lib.hid hb
 have HX := Lib.hid hx
 obtain ⟨r, hr⟩ : ∃ r, shpB 3 n ty nm e a.length b.length c.length = r := ⟨_, rfl⟩
 rw [hr]
 have hB : Below W.heap.size W W := Below.refl _ _
 obtain ⟨qa, hqa⟩ : ∃ q, ((a.length : Int) == 0) = q := ⟨_, rfl⟩
 obtain ⟨qb, hqb⟩ : ∃ q, ((b.length : Int) == 0) = q := ⟨_, rfl⟩
 obtain ⟨qc, hqc⟩ : ∃ q, ((c.length : Int) == 0) = q := ⟨_, rfl⟩
 obtain ⟨qty, hqty⟩ : ∃ q, ty.toList.isEmpty = q := ⟨_, rfl⟩
 obtain ⟨qnm, hqnm⟩ : ∃ q, nm.toList.isEmpty = q := ⟨_, rfl⟩
 obtain ⟨qz, hqz⟩ : ∃ q, (n == 0) = q := ⟨_, rfl⟩
 have e1 : decide (a.length = 0) = qa := by rw [← hqa, Bool.eq_iff_iff]; simp
 have e2 : decide (b.length = 0) = qb := by rw [← hqb, Bool.eq_iff_iff]; simp
 have e3 : decide (c.length = 0) = qc := by rw [← hqc, Bool.eq_iff_iff]; simp
 have e4 : emp ty = qty := hqty
 have e5 : emp nm = qnm := hqnm
 have e6 : decide (n = 0) = qz := hqz
 obtain ⟨qe, hqe⟩ : ∃ q, ((e.length : Int) == 1) = q := ⟨_, rfl⟩
 have e7 : decide (e.length = 1) = qe := by rw [← hqe, Bool.eq_iff_iff]; simp; try omega
 by_cases he : e.length = 1
 case neg =>
   have hqe0 : qe = false := by rw [← e7]; exact decide_eq_false he
   have HF := Lib.hid (show r = false by rw [← hr]; simp [shpB, exprsS, he])
   obtain ⟨x0, x1, x2, x3, x4, x5, x6, x7, _⟩ := hx.get_9
   clear hr hb hx hk e1 e2 e3 e4 e5 e6 e7
   subst hqe0
   go_enter Tryz.func68, Tryz.ntmps68
   go_wp2_with fail
   go_quiet (fail)
   have hB2 := below_drewN hB nq
   go_wp2_with fail
   all_goals
     go_ret
     exact ⟨ret_bool HF.out.symm, HW.out.trans (hB2.mono HW.out.size)⟩
 obtain ⟨g, go, x, rfl, hx0, hxt, hcx⟩ := (hk.2.1.1.keep (Keep.below hb)).get (show 0 < e.length by omega)
 cases x <;> first | (simp [Nd.tag] at hxt; done) | skip
 rename_i xk xn xtx xnm xty xv xl xown xnth
 have z0 := hcx 0 _ rfl
 simp only [Nat.zero_mul, Nat.add_zero] at z0
 obtain ⟨qh, hqh⟩ : ∃ q, calB xk = q := ⟨_, rfl⟩
 have e8 : calB (headK e) = qh := by
   rw [← hqh]
   cases e with
   | nil => simp at he
   | cons y e => simp at hx0; subst hx0; rfl
 have CH : Hid (∀ w', Calls Tryz.prog 100 #[.int .i64 xk] w' fun r w'' => r = .returned (.bool qh) ∧ w' = w'') := by
   show ∀ w', _
   intro w'; rw [← hqh]; exact rcalled_any xk w'
 have hlt0 : (0 : Int) < (e.length : Int) := by omega
 simp only [shpB, numS, typeS, nameS, exprsS, lenS, e1, e2, e3, e4, e5, e6, e7, e8] at hr
 simp [e1, e2, e3, e4, e5, e6, e7, e8] at hr
 have HR := Lib.hid hr
 obtain ⟨x0, x1, x2, x3, x4, x5, x6, x7, _⟩ := hx.get_9
 clear hr hb hx hk e1 e2 e3 e4 e5 e6 e7 hqh hxt hcx hx0 he e8
 go_enter Tryz.func68, Tryz.ntmps68
 go_wp2_with fail
 go_quiet (fail)
 have hB := below_drewN hB nq
 go_wp2_with (first
   | (go_at_call 100; refine (CH.out _).mono ?_; rintro r wn ⟨rfl, rfl⟩))
 all_goals
   go_ret
   exact ⟨ret_bool (by rw [← HR.out]; simp [*]), HW.out.trans (hB.mono HW.out.size)⟩
theorem shape_kout (w : World) (k : Int) (h : k < 1 ∨ 11 < k) (n : Int) (ty nm : ByteArray) (Ae Aa Ab Ac : Option Addr) (ce ca cb cc : Nat) (e a b c : List Nd) (nth : Int) (hk : Kd w (.st k n ty nm (.slice Ae e.length ce) (.slice Aa a.length ca) (.slice Ab b.length cb) (.slice Ac c.length cc) e a b c nth)) (hl1 : e.length ≤ 1000000) (hl2 : a.length ≤ 1000000) (hl3 : b.length ≤ 1000000) (hl4 : c.length ≤ 1000000) :
   Calls Tryz.prog 68 #[.agg #[.int .i64 k, .int .i32 n, .string ty, .string nm, .slice Ae e.length ce, .slice Aa a.length ca, .slice Ab b.length cb, .slice Ac c.length cc, .int .i64 nth]] w fun r w' => r = .returned (.bool (shpB k n ty nm e a.length b.length c.length)) ∧ Below w.heap.size w w' := by
 rw [Kd] at hk
 obtain ⟨W, hW⟩ : ∃ W, w.alloc (.cells #[.int .i64 k, .int .i32 n, .string ty, .string nm, .slice Ae e.length ce, .slice Aa a.length ca, .slice Ab b.length cb, .slice Ac c.length cc, .int .i64 nth] 118) = W := ⟨_, rfl⟩
 have hb : Below w.heap.size w W := by rw [← hW]; exact (Below.refl _ w).alloc (Nat.le_refl _) _
 have hx : Bx W w.heap.size #[.int .i64 k, .int .i32 n, .string ty, .string nm, .slice Ae e.length ce, .slice Aa a.length ca, .slice Ab b.length cb, .slice Ac c.length cc, .int .i64 nth] 118 := by rw [← hW]; exact Bx.new _ _ _
 have HW := Lib.hid hb
 have HX := Lib.hid hx
 obtain ⟨r, hr⟩ : ∃ r, shpB k n ty nm e a.length b.length c.length = r := ⟨_, rfl⟩
 rw [hr]
 have hB : Below W.heap.size W W := Below.refl _ _
 obtain ⟨qa, hqa⟩ : ∃ q, ((a.length : Int) == 0) = q := ⟨_, rfl⟩
 obtain ⟨qb, hqb⟩ : ∃ q, ((b.length : Int) == 0) = q := ⟨_, rfl⟩
 obtain ⟨qc, hqc⟩ : ∃ q, ((c.length : Int) == 0) = q := ⟨_, rfl⟩
 obtain ⟨qty, hqty⟩ : ∃ q, ty.toList.isEmpty = q := ⟨_, rfl⟩
 obtain ⟨qnm, hqnm⟩ : ∃ q, nm.toList.isEmpty = q := ⟨_, rfl⟩
 obtain ⟨qz, hqz⟩ : ∃ q, (n == 0) = q := ⟨_, rfl⟩
 have e1 : decide (a.length = 0) = qa := by rw [← hqa, Bool.eq_iff_iff]; simp
 have e2 : decide (b.length = 0) = qb := by rw [← hqb, Bool.eq_iff_iff]; simp
 have e3 : decide (c.length = 0) = qc := by rw [← hqc, Bool.eq_iff_iff]; simp
 have e4 : emp ty = qty := hqty
 have e5 : emp nm = qnm := hqnm
 have e6 : decide (n = 0) = qz := hqz
 have f1 : (k == 1) = false := by rw [beq_eq_false_iff_ne]; omega
 have f2 : (k == 2) = false := by rw [beq_eq_false_iff_ne]; omega
 have f3 : (k == 3) = false := by rw [beq_eq_false_iff_ne]; omega
 have f4 : (k == 4) = false := by rw [beq_eq_false_iff_ne]; omega
 have f5 : (k == 5) = false := by rw [beq_eq_false_iff_ne]; omega
 have f6 : (k == 6) = false := by rw [beq_eq_false_iff_ne]; omega
 have f7 : (k == 7) = false := by rw [beq_eq_false_iff_ne]; omega
 have f8 : (k == 8) = false := by rw [beq_eq_false_iff_ne]; omega
 have f9 : (k == 9) = false := by rw [beq_eq_false_iff_ne]; omega
 have f10 : (k == 10) = false := by rw [beq_eq_false_iff_ne]; omega
 have f11 : (k == 11) = false := by rw [beq_eq_false_iff_ne]; omega
 have hrf : r = false := by
   rw [← hr]; unfold shpB exprsS
   rw [if_neg (by omega), if_neg (by omega), if_neg (by omega), if_neg (by omega), if_neg (by omega), decide_eq_false (by omega)]
   simp
 have HF := Lib.hid hrf
 obtain ⟨x0, x1, x2, x3, x4, x5, x6, x7, _⟩ := hx.get_9
 clear hr hb hx hk e1 e2 e3 e4 e5 e6   h hrf
 go_enter Tryz.func68, Tryz.ntmps68
 go_wp2_with fail
 go_quiet (fail)
 have hB := below_drewN hB nq
 go_wp2_with fail
 all_goals
   go_ret
   exact ⟨ret_bool (HF.out.symm), HW.out.trans (hB.mono HW.out.size)⟩
end Go.Proofs.YtnbfajmdfkgebaaGreatDoor
