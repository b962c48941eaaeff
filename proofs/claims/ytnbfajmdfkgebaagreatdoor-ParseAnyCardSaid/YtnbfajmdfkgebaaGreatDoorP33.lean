/- Parts of the proof: StC, StD, ExE. -/
import Derived.Test.YtnbfajmdfkgebaaGreatDoorStB
import Derived.Test.YtnbfajmdfkgebaaGreatDoorP31
import Derived.Deep.RegionWith
import Derived.Test.YtnbfajmdfkgebaaGreatDoorP9
set_option maxHeartbeats 4000000
set_option maxRecDepth 100000
namespace Go.Proofs.YtnbfajmdfkgebaaGreatDoor
set_option linter.unusedSimpArgs false
set_option linter.unusedVariables false
section
open Go.RowKit
theorem as_cl (l : List Pl) (k : Nat) : ∃ t, ∀ w, (Instr.typeAssert (aheadV l k) 79 135 true).run Tryz.prog w = .ok (.tuple #[.string t, .bool (clP l[k]?).isSome]) w := by
 cases hx : l[k]? with
 | none => exact ⟨_, fun w => by simp only [aheadV, hx, clP]; exact is_no_cl w⟩
 | some x =>
   obtain ⟨q, a⟩ := x
   cases q with
   | fx t => exact ⟨_, fun w => by simp only [aheadV, hx, clP, Pr.V]; exact is_fx_cl _ w⟩
   | nm t => exact ⟨_, fun w => by simp only [aheadV, hx, clP, Pr.V]; exact is_nm_cl _ w⟩
   | cl t => exact ⟨t, fun w => by simp only [aheadV, hx, clP, Pr.V]; exact is_cl_cl _ w⟩
   | nu t => exact ⟨_, fun w => by simp only [aheadV, hx, clP, Pr.V]; exact is_nu_cl _ w⟩
   | qu t => exact ⟨_, fun w => by simp only [aheadV, hx, clP, Pr.V]; exact is_qu_cl _ w⟩
theorem as_nm (l : List Pl) (k : Nat) : ∃ t, ∀ w, (Instr.typeAssert (aheadV l k) 79 134 true).run Tryz.prog w = .ok (.tuple #[.string t, .bool (nmP l[k]?).isSome]) w := by
 cases hx : l[k]? with
 | none => exact ⟨_, fun w => by simp only [aheadV, hx, nmP]; exact is_no_nm w⟩
 | some x =>
   obtain ⟨q, a⟩ := x
   cases q with
   | fx t => exact ⟨_, fun w => by simp only [aheadV, hx, nmP, Pr.V]; exact is_fx_nm _ w⟩
   | nm t => exact ⟨t, fun w => by simp only [aheadV, hx, nmP, Pr.V]; exact is_nm_nm _ w⟩
   | cl t => exact ⟨_, fun w => by simp only [aheadV, hx, nmP, Pr.V]; exact is_cl_nm _ w⟩
   | nu t => exact ⟨_, fun w => by simp only [aheadV, hx, nmP, Pr.V]; exact is_nu_nm _ w⟩
   | qu t => exact ⟨_, fun w => by simp only [aheadV, hx, nmP, Pr.V]; exact is_qu_nm _ w⟩
theorem sees_is (W0 w : World) (c : Nat) (s : RS) (p : ByteArray) (q : Bool) (h : Rd W0 c s w) (hr : s.sees 0 p = q) : Calls Tryz.prog 83 #[.pointer (some ⟨c, 0, none⟩), .string p] w fun e w' => e = .returned (.bool q) ∧ w = w' := by
 have := sees_any W0 w c s p h; rw [hr] at this; exact this
theorem var_0 (W0 w : World) (c : Nat) (s : RS) (h : Rd W0 c s w) (h0 : s.sees 0 tInt = true) : Calls Tryz.prog 154 #[.pointer (some ⟨c, 0, none⟩)] w fun e w' => e = .returned (.bool s.varB) ∧ w = w' := by
 have S0 := Lib.hid (sees_is W0 w c s tInt _ h h0)
 have HE := Lib.hid (show s.varB = true by simp [RS.varB, h0])
 clear h h0
 go_enter Tryz.func154, Tryz.ntmps154
 go_wp2_with fail
 refine S0.out.mono ?_
 clear S0
 rintro e w1 ⟨rfl, rfl⟩
 go_wp2_with fail
 go_ret
 exact ⟨ret_b HE.out, rfl⟩
theorem var_1 (W0 w : World) (c : Nat) (s : RS) (h : Rd W0 c s w) (h0 : s.sees 0 tInt = false) (h1 : s.sees 0 tBool = true) : Calls Tryz.prog 154 #[.pointer (some ⟨c, 0, none⟩)] w fun e w' => e = .returned (.bool s.varB) ∧ w = w' := by
 have S0 := Lib.hid (sees_is W0 w c s tInt _ h h0)
 have S1 := Lib.hid (sees_is W0 w c s tBool _ h h1)
 have HE := Lib.hid (show s.varB = true by simp [RS.varB, h0, h1])
 clear h h0 h1
 go_enter Tryz.func154, Tryz.ntmps154
 go_wp2_with fail
 refine S0.out.mono ?_
 clear S0
 rintro e w1 ⟨rfl, rfl⟩
 go_wp2_with fail
 refine S1.out.mono ?_
 clear S1
 rintro e w2 ⟨rfl, rfl⟩
 go_wp2_with fail
 go_ret
 exact ⟨ret_b HE.out, rfl⟩
theorem var_2 (W0 w : World) (c : Nat) (s : RS) (h : Rd W0 c s w) (h0 : s.sees 0 tInt = false) (h1 : s.sees 0 tBool = false) (h2 : s.sees 0 tStr = true) : Calls Tryz.prog 154 #[.pointer (some ⟨c, 0, none⟩)] w fun e w' => e = .returned (.bool s.varB) ∧ w = w' := by
 have S0 := Lib.hid (sees_is W0 w c s tInt _ h h0)
 have S1 := Lib.hid (sees_is W0 w c s tBool _ h h1)
 have S2 := Lib.hid (sees_is W0 w c s tStr _ h h2)
 have HE := Lib.hid (show s.varB = true by simp [RS.varB, h0, h1, h2])
 clear h h0 h1 h2
 go_enter Tryz.func154, Tryz.ntmps154
 go_wp2_with fail
 refine S0.out.mono ?_
 clear S0
 rintro e w1 ⟨rfl, rfl⟩
 go_wp2_with fail
 refine S1.out.mono ?_
 clear S1
 rintro e w2 ⟨rfl, rfl⟩
 go_wp2_with fail
 refine S2.out.mono ?_
 clear S2
 rintro e w3 ⟨rfl, rfl⟩
 go_wp2_with fail
 go_ret
 exact ⟨ret_b HE.out, rfl⟩
theorem var_3 (W0 w : World) (c : Nat) (s : RS) (h : Rd W0 c s w) (h0 : s.sees 0 tInt = false) (h1 : s.sees 0 tBool = false) (h2 : s.sees 0 tStr = false) : Calls Tryz.prog 154 #[.pointer (some ⟨c, 0, none⟩)] w fun e w' => e = .returned (.bool s.varB) ∧ w = w' := by
 have S0 := Lib.hid (sees_is W0 w c s tInt _ h h0)
 have S1 := Lib.hid (sees_is W0 w c s tBool _ h h1)
 have S2 := Lib.hid (sees_is W0 w c s tStr _ h h2)
 obtain ⟨t0, a0⟩ := as_cl s.ws 0
 obtain ⟨t1, a1⟩ := as_nm s.ws 1
 have A0 := Lib.hid (ahead_any W0 w c 0 s h (by omega))
 have A1 := Lib.hid (ahead_any W0 w c 1 s h (by omega))
 obtain ⟨u0, hu0⟩ : ∃ u, aheadV s.ws 0 = u := ⟨_, rfl⟩
 obtain ⟨u1, hu1⟩ : ∃ u, aheadV s.ws 1 = u := ⟨_, rfl⟩
 obtain ⟨q0, hq0⟩ : ∃ q, (clP s.ws[0]?).isSome = q := ⟨_, rfl⟩
 obtain ⟨q1, hq1⟩ : ∃ q, (nmP s.ws[1]?).isSome = q := ⟨_, rfl⟩
 have HE := Lib.hid (show s.varB = (q0 && q1) by simp only [RS.varB, h0, h1, h2, hq0, hq1]; simp)
 rw [hu0] at a0 A0
 rw [hu1] at a1 A1
 rw [hq0] at a0
 rw [hq1] at a1
 clear h h0 h1 h2 hu0 hu1 hq0 hq1
 go_enter Tryz.func154, Tryz.ntmps154
 go_wp2_with fail
 refine S0.out.mono ?_
 clear S0
 rintro e w1 ⟨rfl, rfl⟩
 go_wp2_with fail
 refine S1.out.mono ?_
 clear S1
 rintro e w2 ⟨rfl, rfl⟩
 go_wp2_with fail
 refine S2.out.mono ?_
 clear S2
 rintro e w3 ⟨rfl, rfl⟩
 cases q0
 · go_wp2_with fail
   refine A0.out.mono ?_
   clear A0
   rintro e w5 ⟨rfl, rfl⟩
   go_wp2_with fail
   refine A1.out.mono ?_
   clear A1
   rintro e w6 ⟨rfl, rfl⟩
   go_wp2_with fail
   go_ret
   exact ⟨ret_b (by rw [HE.out]; rfl), rfl⟩
 · go_wp2_with fail
   refine A0.out.mono ?_
   clear A0
   rintro e w5 ⟨rfl, rfl⟩
   go_wp2_with fail
   refine A1.out.mono ?_
   clear A1
   rintro e w6 ⟨rfl, rfl⟩
   go_wp2_with fail
   go_ret
   exact ⟨ret_b (by rw [HE.out]; rfl), rfl⟩
theorem var_any (W0 w : World) (c : Nat) (s : RS) (h : Rd W0 c s w) : Calls Tryz.prog 154 #[.pointer (some ⟨c, 0, none⟩)] w fun e w' => e = .returned (.bool s.varB) ∧ w = w' := by
 cases h0 : s.sees 0 tInt with
 | true => exact var_0 W0 w c s h h0
 | false =>
   cases h1 : s.sees 0 tBool with
   | true => exact var_1 W0 w c s h h0 h1
   | false =>
     cases h2 : s.sees 0 tStr with
     | true => exact var_2 W0 w c s h h0 h1 h2
     | false => exact var_3 W0 w c s h h0 h1 h2
theorem takesValue_any (w : World) (k : Int) : Calls Tryz.prog 163 #[.int .i64 k] w fun e w' => e = .returned (.bool (leftK k)) ∧ w = w' := by
 by_cases h6 : k = 6
 · subst h6
   go_enter Tryz.func163, Tryz.ntmps163
   go_wp2
   go_ret
   exact ⟨rfl, rfl⟩
 by_cases h7 : k = 7
 · subst h7
   go_enter Tryz.func163, Tryz.ntmps163
   go_wp2
   go_ret
   exact ⟨rfl, rfl⟩
 by_cases h8 : k = 8
 · subst h8
   go_enter Tryz.func163, Tryz.ntmps163
   go_wp2
   go_ret
   exact ⟨rfl, rfl⟩
 by_cases h9 : k = 9
 · subst h9
   go_enter Tryz.func163, Tryz.ntmps163
   go_wp2
   go_ret
   exact ⟨rfl, rfl⟩
 have e6 : (k == 6) = false := by rw [beq_eq_false_iff_ne]; exact h6
 have e7 : (k == 7) = false := by rw [beq_eq_false_iff_ne]; exact h7
 have e8 : (k == 8) = false := by rw [beq_eq_false_iff_ne]; exact h8
 have e9 : (k == 9) = false := by rw [beq_eq_false_iff_ne]; exact h9
 have HE := Lib.hid (show leftK k = false by simp only [leftK, e6, e7, e8, e9]; rfl)
 clear h6 h7 h8 h9
 go_enter Tryz.func163, Tryz.ntmps163
 go_wp2
 go_ret
 exact ⟨ret_b HE.out, rfl⟩
theorem does_any (w : World) (k : Int) : Calls Tryz.prog 164 #[.int .i64 k] w fun e w' => e = .returned (.bool (doesK k)) ∧ w = w' := by
 by_cases h10 : k = 10
 · subst h10
   go_enter Tryz.func164, Tryz.ntmps164
   go_wp2
   go_ret
   exact ⟨rfl, rfl⟩
 by_cases h11 : k = 11
 · subst h11
   go_enter Tryz.func164, Tryz.ntmps164
   go_wp2
   go_ret
   exact ⟨rfl, rfl⟩
 by_cases h12 : k = 12
 · subst h12
   go_enter Tryz.func164, Tryz.ntmps164
   go_wp2
   go_ret
   exact ⟨rfl, rfl⟩
 by_cases h13 : k = 13
 · subst h13
   go_enter Tryz.func164, Tryz.ntmps164
   go_wp2
   go_ret
   exact ⟨rfl, rfl⟩
 by_cases h14 : k = 14
 · subst h14
   go_enter Tryz.func164, Tryz.ntmps164
   go_wp2
   go_ret
   exact ⟨rfl, rfl⟩
 have e10 : (k == 10) = false := by rw [beq_eq_false_iff_ne]; exact h10
 have e11 : (k == 11) = false := by rw [beq_eq_false_iff_ne]; exact h11
 have e12 : (k == 12) = false := by rw [beq_eq_false_iff_ne]; exact h12
 have e13 : (k == 13) = false := by rw [beq_eq_false_iff_ne]; exact h13
 have e14 : (k == 14) = false := by rw [beq_eq_false_iff_ne]; exact h14
 have HE := Lib.hid (show doesK k = false by simp only [doesK, e10, e11, e12, e13, e14]; rfl)
 clear h10 h11 h12 h13 h14
 go_enter Tryz.func164, Tryz.ntmps164
 go_wp2
 go_ret
 exact ⟨ret_b HE.out, rfl⟩
theorem kindN_bare {x y : Nd} (h : bareN y = bareN x) : kindN y = kindN x := by
 cases x <;> cases y <;> simp only [bareN] at h <;> first | (simp only [Nd.ex.injEq] at h; exact h.1) | rfl | cases h
theorem hd_bare {a b : List Nd} (h : bareL a = bareL b) : bareN (hdE a) = bareN (hdE b) := by
 cases a with
 | nil => cases b with
   | nil => rfl
   | cons y b => simp [bareL] at h
 | cons x a => cases b with
   | nil => simp [bareL] at h
   | cons y b => simp only [bareL, List.cons.injEq] at h; exact h.1
theorem fitsS_bare {x y : Nd} (h : bareN y = bareN x) (f : Bool) : fitsS y f = fitsS x f := by
 cases x <;> cases y <;> simp only [bareN] at h <;> first | rfl | (simp only [Nd.st.injEq, true_and, and_true] at h; obtain ⟨h1, h2, h3, h4, h9, h10⟩ := h; simp only [fitsS]; rw [h1, kindN_bare (hd_bare h9)]) | cases h
theorem Rw.get0 {w : World} {t : Tg} {A : Option Addr} {n cap : Nat} {l : List Nd} (h : Rw w t (.slice A n cap) l) {k : Nat} (hk : k < n) : ∃ b o x, A = Option.some ⟨b, o, none⟩ ∧ l[k]? = Option.some x ∧ x.tag = t ∧ ∀ j u, (cellsN x)[j]? = Option.some u → w.cell? ⟨b, o + k * t.sz + j, none⟩ = Option.some u := by
 obtain ⟨A', cap', hv, _, ht, hc⟩ := h
 injection hv with h1 h2 h3
 obtain ⟨b, o, hA, hcell⟩ := hc (by omega)
 have hl : k < l.length := by omega
 exact ⟨b, o, l[k], h1.trans hA, List.getElem?_eq_getElem hl, ht _ (List.getElem_mem hl), hcell k _ (List.getElem?_eq_getElem hl)⟩
def goodS (x : Nd) : Prop := match x with
 | .st k _ _ _ _ _ _ _ e _ _ _ _ => (k = 2 ∨ k = 3) → e ≠ []
 | _ => True
theorem good_bare {x y : Nd} (h : bareN y = bareN x) (hg : goodS x) : goodS y := by
 cases x <;> cases y <;> simp only [bareN] at h <;> first | trivial | cases h; done | skip
 simp only [Nd.st.injEq, true_and, and_true] at h
 obtain ⟨h1, h2, h3, h4, h9, h10⟩ := h
 simp only [goodS] at hg ⊢
 intro hk e
 refine hg (h1 ▸ hk) ?_
 have := len_of_bare h9
 rw [e] at this
 exact List.length_eq_zero_iff.1 this.symm
theorem good_stS (b : Rb) (s : RS) : goodS (stS b s).1 := by
 unfold stS
 by_cases h0 : s.varB = true
 · rw [if_pos h0]; simp [varS, mkS, goodS]
 rw [if_neg h0]
 by_cases h1 : s.sees 0 kIf = true
 · rw [if_pos h1]; unfold choS; split <;> simp [mkS, goodS]
 rw [if_neg h1]
 by_cases h2 : s.sees 0 kWhile = true
 · rw [if_pos h2]; simp [whlS, mkS, goodS]
 rw [if_neg h2]
 by_cases h3 : s.sees 0 kReturn = true
 · rw [if_pos h3]; unfold resS; split <;> simp [mkS, goodS]
 rw [if_neg h3]
 by_cases h4 : s.sees 0 kPrint = true
 · rw [if_pos h4]; simp [mkS, goodS]
 rw [if_neg h4]
 by_cases h5 : s.sees 0 kAssert = true
 · rw [if_pos h5]; simp [mkS, goodS]
 rw [if_neg h5]
 by_cases h6 : s.sees 0 kThrow = true
 · rw [if_pos h6]; simp [mkS, goodS]
 rw [if_neg h6]
 by_cases h7 : s.sees 0 kTry = true
 · rw [if_pos h7]; unfold attS; split <;> simp [mkS, goodS]
 rw [if_neg h7]
 have hp : goodS (plaS s).1 := by unfold plaS; split <;> simp [mkS, goodS]
 by_cases h8 : s.sees 0 sSuper = true
 · rw [if_pos h8]
   split
   · simp [supS, mkS, goodS]
   · exact hp
 rw [if_neg h8]; exact hp
theorem fitsP_any (w : World) (k n : Int) (ty nm : ByteArray) (A1 A2 A3 A4 : Option Addr) (c1 c2 c3 c4 : Nat) (l1 l2 l3 l4 : List Nd) (first : Bool) (hr : Rw w .ex (.slice A1 l1.length c1) l1) (hg : goodS (.st k n ty nm (.slice A1 l1.length c1) (.slice A2 l2.length c2) (.slice A3 l3.length c3) (.slice A4 l4.length c4) l1 l2 l3 l4 0)) :
   Calls Tryz.prog 141 #[.agg #[.int .i64 k, .int .i32 n, .string ty, .string nm, .slice A1 l1.length c1, .slice A2 l2.length c2, .slice A3 l3.length c3, .slice A4 l4.length c4, .int .i64 0], .bool first] w fun e w' => e = .returned (.bool (fitsS (.st k n ty nm (.slice A1 l1.length c1) (.slice A2 l2.length c2) (.slice A3 l3.length c3) (.slice A4 l4.length c4) l1 l2 l3 l4 0) first)) ∧ Below w.heap.size w w' := by
 obtain ⟨W1, hW1⟩ : ∃ W1, w.alloc (.cells #[.int .i64 k, .int .i32 n, .string ty, .string nm, .slice A1 l1.length c1, .slice A2 l2.length c2, .slice A3 l3.length c3, .slice A4 l4.length c4, .int .i64 0] 118) = W1 := ⟨_, rfl⟩
 have hb : Below w.heap.size w W1 := by rw [← hW1]; exact (Below.refl _ w).alloc (Nat.le_refl _) _
 have hx : Bx W1 w.heap.size #[.int .i64 k, .int .i32 n, .string ty, .string nm, .slice A1 l1.length c1, .slice A2 l2.length c2, .slice A3 l3.length c3, .slice A4 l4.length c4, .int .i64 0] 118 := by rw [← hW1]; exact Bx.new _ _ _
 obtain ⟨a0, a1, a2, a3, a4, a5, a6, a7, a8⟩ := hx.all_9
 have HB := Lib.hid hb
 by_cases h11 : k = 11
 · have HE := Lib.hid (show fitsS (.st k n ty nm (.slice A1 l1.length c1) (.slice A2 l2.length c2) (.slice A3 l3.length c3) (.slice A4 l4.length c4) l1 l2 l3 l4 0) first = first by simp only [fitsS, if_pos h11])
   subst h11
   clear hx hg hr hb
   go_enter Tryz.func141, Tryz.ntmps141
   go_wp2_with fail
   go_ret
   exact ⟨ret_b HE.out, HB.out⟩
 have e11 : (k == 11) = false := by rw [beq_eq_false_iff_ne]; exact h11
 by_cases h2 : k = 2
 · have HE := Lib.hid (show fitsS (.st k n ty nm (.slice A1 l1.length c1) (.slice A2 l2.length c2) (.slice A3 l3.length c3) (.slice A4 l4.length c4) l1 l2 l3 l4 0) first = leftK (kindN (hdE l1)) by simp only [fitsS, if_neg h11, if_pos h2])
   have hne := hg (by simp [h2])
   obtain ⟨z, l, rfl⟩ := List.exists_cons_of_ne_nil hne
   obtain ⟨bb, o, z', hA, hz, hzt, hc⟩ := (Rw.keep (Keep.below hb) hr).get0 (show 0 < (z :: l).length by simp)
   simp only [List.getElem?_cons_zero, Option.some.injEq] at hz
   subst hz hA
   cases z <;> first | (simp [Nd.tag] at hzt; done) | skip
   rename_i zk zn ztx znm zty zv zl zo zth
   have d0 := hc 0 _ rfl
   simp only [Tg.sz, Nat.add_zero, Nat.zero_mul] at d0
   have hp : (0 : Int) < ((l.length + 1 : Nat) : Int) := by omega
   have HF := Lib.hid (takesValue_any W1 zk)
   obtain ⟨q, hq⟩ : ∃ q, leftK zk = q := ⟨_, rfl⟩
   rw [hq] at HF
   have HE2 := Lib.hid (show fitsS _ first = q by rw [HE.out, ← hq]; rfl)
   subst h2
   simp only [List.length_cons] at a4 hW1 hx ⊢
   clear hx hg hr hb hne hc hzt hq HE e11
   go_enter Tryz.func141, Tryz.ntmps141
   go_wp2_with fail
   refine HF.out.mono ?_
   clear HF
   rintro e w2 ⟨rfl, rfl⟩
   go_wp2_with fail
   go_ret
   exact ⟨ret_b HE2.out, HB.out⟩
 have e2 : (k == 2) = false := by rw [beq_eq_false_iff_ne]; exact h2
 by_cases h3 : k = 3
 · have HE := Lib.hid (show fitsS (.st k n ty nm (.slice A1 l1.length c1) (.slice A2 l2.length c2) (.slice A3 l3.length c3) (.slice A4 l4.length c4) l1 l2 l3 l4 0) first = doesK (kindN (hdE l1)) by simp only [fitsS, if_neg h11, if_neg h2, if_pos h3])
   have hne := hg (by simp [h3])
   obtain ⟨z, l, rfl⟩ := List.exists_cons_of_ne_nil hne
   obtain ⟨bb, o, z', hA, hz, hzt, hc⟩ := (Rw.keep (Keep.below hb) hr).get0 (show 0 < (z :: l).length by simp)
   simp only [List.getElem?_cons_zero, Option.some.injEq] at hz
   subst hz hA
   cases z <;> first | (simp [Nd.tag] at hzt; done) | skip
   rename_i zk zn ztx znm zty zv zl zo zth
   have d0 := hc 0 _ rfl
   simp only [Tg.sz, Nat.add_zero, Nat.zero_mul] at d0
   have hp : (0 : Int) < ((l.length + 1 : Nat) : Int) := by omega
   have HF := Lib.hid (does_any W1 zk)
   obtain ⟨q, hq⟩ : ∃ q, doesK zk = q := ⟨_, rfl⟩
   rw [hq] at HF
   have HE2 := Lib.hid (show fitsS _ first = q by rw [HE.out, ← hq]; rfl)
   subst h3
   simp only [List.length_cons] at a4 hW1 hx ⊢
   clear hx hg hr hb hne hc hzt hq HE e11
   go_enter Tryz.func141, Tryz.ntmps141
   go_wp2_with fail
   refine HF.out.mono ?_
   clear HF
   rintro e w2 ⟨rfl, rfl⟩
   go_wp2_with fail
   go_ret
   exact ⟨ret_b HE2.out, HB.out⟩
 have e3 : (k == 3) = false := by rw [beq_eq_false_iff_ne]; exact h3
 have HE := Lib.hid (show fitsS (.st k n ty nm (.slice A1 l1.length c1) (.slice A2 l2.length c2) (.slice A3 l3.length c3) (.slice A4 l4.length c4) l1 l2 l3 l4 0) first = true by simp only [fitsS, if_neg h11, if_neg h2, if_neg h3])
 clear hx hg hr hb h11 h2 h3
 go_enter Tryz.func141, Tryz.ntmps141
 go_wp2_with fail
 go_ret
 exact ⟨ret_b HE.out, HB.out⟩
end
section
open Go.RowKit
theorem fk_app {B B2 : Nat} {w w' : World} {v v2 v' : Value} {xs ys : List Nd} (h : OwnE B w v xs) (h2 : OwnE B2 w v2 ys) (hB : B ≤ B2) (ho : w'.ownsRow B 36 8 v' (xs.length + ys.length) (xs.flatMap cellsN ++ ys.flatMap cellsN)) (hg : w.grownBy w' none) : FkL B w' .ex v' (xs ++ ys) := by
 have hk : ∀ k j u, w.cell? ⟨k, j, none⟩ = some u → w'.cell? ⟨k, j, none⟩ = some u := fun k j u hu => hg.cell (a := ⟨k, j, none⟩) hu (by simp)
 have ht : ∀ x ∈ xs ++ ys, x.tag = .ex := fun x hx => by
   rcases List.mem_append.1 hx with hx | hx
   · exact (h.2.1 x hx).tag
   · exact (h2.2.1 x hx).tag
 have hm : (xs ++ ys).length ≤ 4000000 := by have := h.2.2.2; have := h2.2.2.2; rw [List.length_append]; omega
 intro ws hs
 refine ⟨?_, KdL_append (h.2.2.1 ws fun k j u hkB _ hu => hs k j u hkB (hk k j u hu)) (h2.2.2.1 ws fun k j u hkB _ hu => hs k j u (Nat.le_trans hB hkB) (hk k j u hu))⟩
 have ho' : w'.ownsRow B 36 8 v' (xs ++ ys).length ((xs ++ ys).flatMap cellsN) := by simpa using ho
 obtain ⟨A, cap, rfl, hc⟩ := own_form ho'
 refine ⟨A, cap, rfl, ⟨by unfold maxLen; omega, hc⟩, ht, fun hn => ?_⟩
 obtain ⟨g, cap', hv, hg', hl, hat⟩ := own_row ho' hn
 injection hv with h1 h2' h3
 refine ⟨g, 0, h1, fun i x hx j u hu => ?_⟩
 have hj : j < Tg.ex.sz := by rw [← ht x (List.mem_of_getElem? hx), ← cells_len]; exact (List.getElem?_eq_some_iff.1 hu).1
 have := (hat (i * Tg.ex.sz + j) u (by rw [flat_get (xs ++ ys) i j x ht hx hj]; exact hu)).1
 rw [Nat.zero_add]
 exact hs g _ u hg' this
theorem one_of_len {l : List Nd} (h : l.length = 1) : ∃ z, l = [z] := by
 match l, h with
 | [z], _ => exact ⟨z, rfl⟩
theorem plain_0 (HE : ExAny) (W0 w : World) (c : Nat) (s : RS) (hv : Vars W0) (h : Rd W0 c s w) (hel : (ex s).2.sees 0 sEq = false) : Calls Tryz.prog 162 #[.pointer (some ⟨c, 0, none⟩)] w (StC W0 c w (plaS s)) := by
 obtain ⟨q, hq⟩ : ∃ q, ex s = q := ⟨_, rfl⟩
 rw [hq] at hel
 have HRE : Hid (plaS s = (mkS 3 0 E0 E0 [hdE q.1] [] [] [], q.2.need sSemi)) := Lib.hid (by simp only [plaS, hq, hel]; simp)
 obtain ⟨RR, hRR⟩ : ∃ RR, plaS s = RR := ⟨_, rfl⟩
 rw [hRR] at HRE ⊢
 have hlt := h.lt
 have hle0 := h.le
 obtain ⟨W1, hW1⟩ : ∃ W1, w.alloc (.cells #[.int .i64 0, .int .i32 0, .string ⟨#[]⟩, .string ⟨#[]⟩, .slice none 0 0, .slice none 0 0, .slice none 0 0, .slice none 0 0, .int .i64 0] 118) = W1 := ⟨_, rfl⟩
 have hb : Below w.heap.size w W1 := by rw [← hW1]; exact (Below.refl _ w).alloc (Nat.le_refl _) _
 have hx : Bx W1 w.heap.size #[.int .i64 0, .int .i32 0, .string ⟨#[]⟩, .string ⟨#[]⟩, .slice none 0 0, .slice none 0 0, .slice none 0 0, .slice none 0 0, .int .i64 0] 118 := by rw [← hW1]; exact Bx.new _ _ _
 have hz : W1.heap.size = w.heap.size + 1 := by rw [← hW1]; simp
 have HM := Lib.hid (Mv.below hb h)
 have HB := Lib.hid hx
 clear hb hx
 have HX : Hid (∀ w', Rd W0 c (s) w' → Calls Tryz.prog 28 #[.pointer (some ⟨c, 0, none⟩)] w' (ExC W0 c w' q)) := by
   show ∀ w', _
   intro w' h'; have := HE W0 w' c _ hv h'; rw [hq] at this; exact this
 have HN : Hid (∀ w', Rd W0 c (q.2) w' → Calls Tryz.prog 55 #[.pointer (some ⟨c, 0, none⟩), .string sSemi] w' fun e w'' => e = .returned (.tuple #[]) ∧ Mv W0 c (RS.need (q.2) sSemi) w' w'') := by
   show ∀ w', _
   intro w' h'; exact need_any W0 w' c _ sSemi h'
 have HT : Hid (∀ w', Rd W0 c q.2 w' → Calls Tryz.prog 57 #[.pointer (some ⟨c, 0, none⟩), .string sEq] w' fun e w'' => e = .returned (.bool false) ∧ w' = w'') := by
   show ∀ w', _
   intro w' h'; exact take_false W0 w' c _ _ h' hel
 clear hRR hq h hv hel HE
 go_enter Tryz.func162, Tryz.ntmps162
 go_wp2_with fail
 refine (HX.out _ HM.out.2).mono ?_
 clear HX hW1
 rintro e w2 ⟨y, rfl, hk, hm⟩
 replace HM := Lib.hid (HM.out.trans hm)
 replace HB := Lib.hid (Bx.grown HB.out hm.1 (by omega))
 have hs2 := hm.1.size
 have HK := Lib.hid (hk.mono (show w.heap.size + 1 ≤ _ by omega))
 obtain ⟨k, m, tx, nm, ty, A, cap, l, rfl, _, _, _⟩ := hk
 clear hm
 obtain ⟨W3, hW3⟩ : ∃ W, w2.alloc (.cells #[.int .i64 k, .int .i32 m, .string tx, .string nm, .string ty, .slice A l.length cap, .string ⟨#[]⟩, .int .i64 0] 36) = W := ⟨_, rfl⟩
 have hb : Below w2.heap.size w2 W3 := by rw [← hW3]; exact (Below.refl _ _).alloc (Nat.le_refl _) _
 have HL : Hid (Bx W3 w2.heap.size #[.int .i64 k, .int .i32 m, .string tx, .string nm, .string ty, .slice A l.length cap, .string ⟨#[]⟩, .int .i64 0] 36) := Lib.hid (by rw [← hW3]; exact Bx.new _ _ _)
 replace HM := Lib.hid (HM.out.trans (Mv.below hb HM.out.2))
 replace HK := Lib.hid (HK.out.below hb)
 replace HB := Lib.hid (HB.out.next hb)
 have hs3 := hb.size
 clear hb
 subst hW3
 simp only [cellsN]
 go_wp2_with fail
 refine (HT.out _ HM.out.2).mono ?_
 clear HT
 rintro e w4 ⟨rfl, rfl⟩
 go_wp2_with fail
 refine (HN.out _ HM.out.2).mono ?_
 clear HN
 rintro e w5 ⟨rfl, hm⟩
 replace HM := Lib.hid (HM.out.trans hm)
 replace HL := Lib.hid (Bx.grown HL.out hm.1 (by omega))
 replace HB := Lib.hid (Bx.grown HB.out hm.1 (by omega))
 replace HK := Lib.hid (HK.out.grown hm.1 (.inl (by omega)))
 have hs5 := hm.1.size
 clear hm
 obtain ⟨W6, hW6⟩ : ∃ W, w5.alloc (.cells #[.int .i64 k, .int .i32 m, .string tx, .string nm, .string ty, .slice A l.length cap, .string ⟨#[]⟩, .int .i64 0] 36) = W := ⟨_, rfl⟩
 have hb : Below w5.heap.size w5 W6 := by rw [← hW6]; exact (Below.refl _ _).alloc (Nat.le_refl _) _
 have HY : Hid (OwnE (w.heap.size + 1) W6 (.slice (some ⟨w5.heap.size, 0, none⟩) 1 1) [.ex k m tx nm ty (.slice A l.length cap) l ⟨#[]⟩ 0]) := Lib.hid (by have := OwnE.one HK.out (show w.heap.size + 1 ≤ w5.heap.size by omega); simp only [cellsN] at this; rw [hW6] at this; exact this)
 have HQ := Lib.hid (bare_one (ExK.nk HK.out).2.2)
 obtain ⟨a0, a1, a2, a3, a4, a5, a6, a7⟩ := HL.out.all_8
 replace HM := Lib.hid (HM.out.trans (Mv.below hb HM.out.2))
 replace HB := Lib.hid (HB.out.next hb)
 clear hb
 obtain ⟨r0, r1, r2, r3, r4, r5, r6, r7, r8⟩ := HB.out.all_9
 have g0 := HB.out.fro 0; have g1 := HB.out.fro 1; have g2 := HB.out.fro 2; have g3 := HB.out.fro 3; have g4 := HB.out.fro 4; have g5 := HB.out.fro 5; have g6 := HB.out.fro 6; have g7 := HB.out.fro 7; have g8 := HB.out.fro 8
 have HG := Lib.hid (grown_9 W6 w.heap.size (.int .i64 3) (.int .i32 0) (.string ⟨#[]⟩) (.string ⟨#[]⟩) (.slice (some ⟨w5.heap.size, 0, none⟩) 1 1) (.slice none 0 0) (.slice none 0 0) (.slice none 0 0) (.int .i64 0))
 go_wp2_with fail
 obtain ⟨z0, z1, z2, z3, z4, z5, z6, z7, z8⟩ := (HB.out.to_9 (.int .i64 3) (.int .i32 0) (.string ⟨#[]⟩) (.string ⟨#[]⟩) (.slice (some ⟨w5.heap.size, 0, none⟩) 1 1) (.slice none 0 0) (.slice none 0 0) (.slice none 0 0) (.int .i64 0)).all_9
 (try simp only [Exit.inBlock, Exit.then])
 refine bodyPost_ret (v := .agg #[.int .i64 3, .int .i32 0, .string ⟨#[]⟩, .string ⟨#[]⟩, .slice (some ⟨w5.heap.size, 0, none⟩) 1 1, .slice none 0 0, .slice none 0 0, .slice none 0 0, .int .i64 0]) (by simp [results, Tryz.results162, go_sem, z0, z1, z2, z3, z4, z5, z6, z7, z8]) rfl ?_
 rw [HRE.out]
 refine ⟨.st (3) (0) ⟨#[]⟩ ⟨#[]⟩ (.slice (some ⟨w5.heap.size, 0, none⟩) 1 1) (.slice none 0 0) (.slice none 0 0) (.slice none 0 0) [.ex k m tx nm ty (.slice A l.length cap) l ⟨#[]⟩ 0] [] [] [] 0, rfl, ⟨_, _, _, _, _, _, _, _, _, _, _, _, [.ex k m tx nm ty (.slice A l.length cap) l ⟨#[]⟩ 0], [], [], [], rfl⟩, ?_, Mv.over (Below.refl _ _) HM.out HG.out (Nat.le_refl _) hlt⟩
 exact ((st_node (B := w.heap.size + 1) ⟨Nat.zero_le _, Nat.zero_le _⟩ HY.out.own.fk (FkL.nil _ _ _) (FkL.nil _ _ _) (FkL.nil _ _ _) HQ.out rfl rfl rfl).grown HG.out (.inl (by omega))).mono (by omega)
theorem plain_1 (HE : ExAny) (W0 w : World) (c : Nat) (s : RS) (hv : Vars W0) (h : Rd W0 c s w) (hel : (ex s).2.sees 0 sEq = true) : Calls Tryz.prog 162 #[.pointer (some ⟨c, 0, none⟩)] w (StC W0 c w (plaS s)) := by
 obtain ⟨q, hq⟩ : ∃ q, ex s = q := ⟨_, rfl⟩
 rw [hq] at hel
 obtain ⟨d, hd⟩ : ∃ d, finE q.2.skip = d := ⟨_, rfl⟩
 have HRE : Hid (plaS s = (mkS 2 0 E0 E0 (hdE q.1 :: d.1) [] [] [], d.2)) := Lib.hid (by simp only [plaS, hq, hel, hd, if_true])
 obtain ⟨RR, hRR⟩ : ∃ RR, plaS s = RR := ⟨_, rfl⟩
 rw [hRR] at HRE ⊢
 have hd1 : d.1.length = 1 := by rw [← hd]; rfl
 have hlt := h.lt
 have hle0 := h.le
 obtain ⟨W1, hW1⟩ : ∃ W1, w.alloc (.cells #[.int .i64 0, .int .i32 0, .string ⟨#[]⟩, .string ⟨#[]⟩, .slice none 0 0, .slice none 0 0, .slice none 0 0, .slice none 0 0, .int .i64 0] 118) = W1 := ⟨_, rfl⟩
 have hb : Below w.heap.size w W1 := by rw [← hW1]; exact (Below.refl _ w).alloc (Nat.le_refl _) _
 have hx : Bx W1 w.heap.size #[.int .i64 0, .int .i32 0, .string ⟨#[]⟩, .string ⟨#[]⟩, .slice none 0 0, .slice none 0 0, .slice none 0 0, .slice none 0 0, .int .i64 0] 118 := by rw [← hW1]; exact Bx.new _ _ _
 have hz : W1.heap.size = w.heap.size + 1 := by rw [← hW1]; simp
 have HM := Lib.hid (Mv.below hb h)
 have HB := Lib.hid hx
 clear hb hx
 have HX : Hid (∀ w', Rd W0 c (s) w' → Calls Tryz.prog 28 #[.pointer (some ⟨c, 0, none⟩)] w' (ExC W0 c w' q)) := by
   show ∀ w', _
   intro w' h'; have := HE W0 w' c _ hv h'; rw [hq] at this; exact this
 have HC : Hid (∀ w', Rd W0 c (q.2.skip) w' → Calls Tryz.prog 159 #[.pointer (some ⟨c, 0, none⟩)] w' (LsC W0 c w' d)) := by
   show ∀ w', _
   intro w' h'; have := finE_of HE W0 w' c _ hv h'; rw [hd] at this; exact this
 have HT : Hid (∀ w', Rd W0 c q.2 w' → Calls Tryz.prog 57 #[.pointer (some ⟨c, 0, none⟩), .string sEq] w' fun e w'' => e = .returned (.bool true) ∧ Mv W0 c q.2.skip w' w'') := by
   show ∀ w', _
   intro w' h'; exact take_true W0 w' c _ _ h' hel
 clear hRR hq h hv hel HE hd
 go_enter Tryz.func162, Tryz.ntmps162
 go_wp2_with fail
 refine (HX.out _ HM.out.2).mono ?_
 clear HX hW1
 rintro e w2 ⟨y, rfl, hk, hm⟩
 replace HM := Lib.hid (HM.out.trans hm)
 replace HB := Lib.hid (Bx.grown HB.out hm.1 (by omega))
 have hs2 := hm.1.size
 have HK := Lib.hid (hk.mono (show w.heap.size + 1 ≤ _ by omega))
 obtain ⟨k, m, tx, nm, ty, A, cap, l, rfl, _, _, _⟩ := hk
 clear hm
 obtain ⟨W3, hW3⟩ : ∃ W, w2.alloc (.cells #[.int .i64 k, .int .i32 m, .string tx, .string nm, .string ty, .slice A l.length cap, .string ⟨#[]⟩, .int .i64 0] 36) = W := ⟨_, rfl⟩
 have hb : Below w2.heap.size w2 W3 := by rw [← hW3]; exact (Below.refl _ _).alloc (Nat.le_refl _) _
 have HL : Hid (Bx W3 w2.heap.size #[.int .i64 k, .int .i32 m, .string tx, .string nm, .string ty, .slice A l.length cap, .string ⟨#[]⟩, .int .i64 0] 36) := Lib.hid (by rw [← hW3]; exact Bx.new _ _ _)
 replace HM := Lib.hid (HM.out.trans (Mv.below hb HM.out.2))
 replace HK := Lib.hid (HK.out.below hb)
 replace HB := Lib.hid (HB.out.next hb)
 have hs3 := hb.size
 clear hb
 subst hW3
 simp only [cellsN]
 go_wp2_with fail
 refine (HT.out _ HM.out.2).mono ?_
 clear HT
 rintro e w4 ⟨rfl, hm⟩
 replace HM := Lib.hid (HM.out.trans hm)
 replace HL := Lib.hid (Bx.grown HL.out hm.1 (by omega))
 replace HB := Lib.hid (Bx.grown HB.out hm.1 (by omega))
 replace HK := Lib.hid (HK.out.grown hm.1 (.inl (by omega)))
 have hs4 := hm.1.size
 clear hm
 have hsd : w4.drew.heap.size = w4.heap.size := rfl
 have HMD := Lib.hid (HM.out.trans (Mv.below (Below.refl _ w4).drew HM.out.2))
 have HKD := Lib.hid (HK.out.below (Below.refl _ w4).drew)
 have HBD := Lib.hid (HB.out.next (Below.refl _ w4).drew)
 have HLD := Lib.hid (HL.out.next (Below.refl _ w4).drew)
 have HYA := Lib.hid (OwnE.one HKD.out (show w.heap.size + 1 ≤ w4.drew.heap.size by rw [hsd]; omega))
 have hba : Below w4.drew.heap.size w4.drew (w4.drew.alloc (.cells #[.int .i64 k, .int .i32 m, .string tx, .string nm, .string ty, .slice A l.length cap, .string ⟨#[]⟩, .int .i64 0] 36)) := (Below.refl _ _).alloc (Nat.le_refl _) _
 have HMA := Lib.hid (HMD.out.trans (Mv.below hba HMD.out.2))
 have HBA := Lib.hid (HBD.out.next hba)
 have HLA := Lib.hid (HLD.out.next hba)
 simp only [cellsN] at HYA
 obtain ⟨i0, hi, hz0, hzz1, hzz2⟩ := info_parts Tryz.infoEx
 obtain ⟨a0, a1, a2, a3, a4, a5, a6, a7⟩ := HL.out.all_8
 have HQ := Lib.hid (ExK.nk HK.out).2.2
 clear hba HK
 go_wp2_with fail
 go_region_law (first
   | (refine step_append_full rfl (.tmp 9) (.tmp 11) 34 rfl 36 i0 _ 8 112 Tryz.underlying34 hi hz0 hzz1 hzz2 rfl (by decide) (w.heap.size + 1) (some ⟨_, 0, none⟩) 1 _ rfl HV.out.1 _ _ _ _ rfl HR.out.1 (ex_one HR.out.2.1) (by unfold maxLen; simp) (by simp) HC3.out ?_; intro v3 w6 ho6 hg6 hat6; have hfk := fk_app HV.out HR.out (by omega) ho6 hg6; have ho7 : World.ownsRow _ _ _ _ _ 2 _ := ho6; obtain ⟨A3, cap3, rfl, _⟩ := own_form ho7; have HF3 := Lib.hid hfk; have HB6 := Lib.hid (Bx.next HBV.out (below_none hg6)); have HM6 := Lib.hid (HMV.out.trans (Mv.below (below_none hg6) HMV.out.2)); obtain ⟨r0, r1, r2, r3, r4, r5, r6, r7, r8⟩ := HB6.out.all_9; have g0 := HB6.out.fro 0; have g1 := HB6.out.fro 1; have g2 := HB6.out.fro 2; have g3 := HB6.out.fro 3; have g4 := HB6.out.fro 4; have g5 := HB6.out.fro 5; have g6 := HB6.out.fro 6; have g7 := HB6.out.fro 7; have g8 := HB6.out.fro 8; clear ho6 ho7 hg6 hat6 hfk)
   | (go_simp; go_wp2_with (go_loud (go_at_call 159; refine (HC.out _ (by first | exact HMD.out.2 | exact HMA.out.2)).mono ?_; rintro e w5 ⟨v2, zs, rfl, ho2, hbz, hm⟩; obtain ⟨z, rfl⟩ := one_of_len ((len_of_bare hbz).trans hd1); obtain ⟨A2, cap2, rfl⟩ := ho2.form; have HBZ := Lib.hid hbz; have hs5 := hm.1.size; first | (have HV := Lib.hid (HYA.out.grown hm.1 (by omega)); have HR := Lib.hid (ho2.mono (show w.heap.size + 1 ≤ _ by simp only [World.size_alloc, World.size_drew]; omega)); have HMV := Lib.hid (HMA.out.trans hm); have HBV := Lib.hid (Bx.grown HBA.out hm.1 (by omega)); have HC3 := Lib.hid (show w.heap.size + 1 ≤ w5.heap.size from Nat.le_trans (by simp only [World.size_alloc, World.size_drew]; omega) hs5); clear hm ho2 hbz) | (have HK5 := Lib.hid (HKD.out.grown hm.1 (.inl (by omega))); have hb5 : Below w5.heap.size w5 (w5.alloc (.cells #[.int .i64 k, .int .i32 m, .string tx, .string nm, .string ty, .slice A l.length cap, .string ⟨#[]⟩, .int .i64 0] 36)) := (Below.refl _ _).alloc (Nat.le_refl _) _; have hw5 : w.heap.size + 1 ≤ w5.heap.size := (by omega); have HV := Lib.hid (OwnE.one HK5.out hw5); have HR := Lib.hid ((ho2.mono (show w.heap.size + 1 ≤ _ by omega)).below hb5); have HMV := Lib.hid ((HMD.out.trans hm).trans (Mv.below hb5 hm.2)); have HBV := Lib.hid ((Bx.grown HBD.out hm.1 (by omega)).next hb5); have HC3 := Lib.hid (Nat.le_trans hw5 hb5.size); simp only [cellsN] at HV; obtain ⟨b0, b1, b2, b3, b4, b5, b6, b7⟩ := (Bx.grown HLD.out hm.1 (by omega)).all_8; clear hm ho2 hbz hb5)))))
 all_goals
   have HG := Lib.hid (grown_9 w6 w.heap.size (.int .i64 2) (.int .i32 0) (.string ⟨#[]⟩) (.string ⟨#[]⟩) (.slice A3 2 cap3) (.slice none 0 0) (.slice none 0 0) (.slice none 0 0) (.int .i64 0))
   go_wp2_with fail
   obtain ⟨z0, z1, z2, z3, z4, z5, z6, z7, z8⟩ := (HB6.out.to_9 (.int .i64 2) (.int .i32 0) (.string ⟨#[]⟩) (.string ⟨#[]⟩) (.slice A3 2 cap3) (.slice none 0 0) (.slice none 0 0) (.slice none 0 0) (.int .i64 0)).all_9
   (try simp only [Exit.inBlock, Exit.then])
   refine bodyPost_ret (v := .agg #[.int .i64 2, .int .i32 0, .string ⟨#[]⟩, .string ⟨#[]⟩, .slice A3 2 cap3, .slice none 0 0, .slice none 0 0, .slice none 0 0, .int .i64 0]) (by simp [results, Tryz.results162, go_sem, z0, z1, z2, z3, z4, z5, z6, z7, z8]) rfl ?_
   rw [HRE.out]
   refine ⟨.st 2 0 ⟨#[]⟩ ⟨#[]⟩ (.slice A3 2 cap3) (.slice none 0 0) (.slice none 0 0) (.slice none 0 0) [.ex k m tx nm ty (.slice A l.length cap) l ⟨#[]⟩ 0, z] [] [] [] 0, rfl, ⟨_, _, _, _, _, _, _, _, _, _, _, _, [.ex k m tx nm ty (.slice A l.length cap) l ⟨#[]⟩ 0, z], [], [], [], rfl⟩, ?_, Mv.over (Below.refl _ _) HM6.out HG.out (Nat.le_refl _) hlt⟩
   exact ((st_node (B := w.heap.size + 1) ⟨Nat.zero_le _, Nat.zero_le _⟩ HF3.out (FkL.nil _ _ _) (FkL.nil _ _ _) (FkL.nil _ _ _) (by rw [bareL_append, HBZ.out]; simp only [bareL, List.cons_append, List.nil_append]; rw [HQ.out]) rfl rfl rfl).grown HG.out (.inl (by omega))).mono (by omega)
theorem plainS_of (HE : ExAny) (W0 w : World) (c : Nat) (s : RS) (hv : Vars W0) (h : Rd W0 c s w) : Calls Tryz.prog 162 #[.pointer (some ⟨c, 0, none⟩)] w (StC W0 c w (plaS s)) := by
 cases hel : (ex s).2.sees 0 sEq with
 | false => exact plain_0 HE W0 w c s hv h hel
 | true => exact plain_1 HE W0 w c s hv h hel
end
section
open Go.RowKit
theorem Mv.box {W0 w : World} {c : Nat} {s : RS} (h : Rd W0 c s w) (o : Obj) : Mv W0 c s w (w.alloc o) := Mv.below ((Below.refl _ _).alloc (Nat.le_refl _) _) h
theorem signed_0 (n : Nat) (IH : SpecS n) (W0 w : World) (c : Nat) (s : RS) (hv : Vars W0) (h : Rd W0 c s w) (hn : enough (n + 1) .signed s) (h0 : s.sees 0 sMinus = true) : Calls Tryz.prog 69 #[.pointer (some ⟨c, 0, none⟩)] w (ExC W0 c w (run (n + 1) .signed s)) := by
 obtain ⟨r, hr⟩ : ∃ r, run n .signed (s.enter sMinus) = r := ⟨_, rfl⟩
 have hsig : signOf s = some sMinus := by simp [signOf, h0]
 have hR : run (n + 1) .signed s = ([mkE 18 0 E0 sMinus E0 [hdE r.1]], r.2.dec) := by simp only [run, hsig, hr]
 have hle := sees_len h0
 have hen : enough n .signed (s.enter sMinus) := by have := len_enter s sMinus; simp only [enough, Md.rank] at hn ⊢; omega
 have hlt := h.lt
 have hle0 := h.le
 have T0 : Hid (∀ w', Rd W0 c s w' → Calls Tryz.prog 83 #[.pointer (some ⟨c, 0, none⟩), .string sMinus] w' fun e w'' => e = .returned (.bool true) ∧ w' = w'') := by
   show ∀ w', _
   intro w' h'; have := sees_any W0 w' c s sMinus h'; rw [h0] at this; exact this
 have HEN : Hid (∀ w', Rd W0 c s w' → Calls Tryz.prog 101 #[.pointer (some ⟨c, 0, none⟩), .string sMinus] w' fun e w'' => e = .returned (.tuple #[]) ∧ Mv W0 c (s.enter sMinus) w' w'') := by
   show ∀ w', _
   intro w' h'; exact enter_any W0 w' c s sMinus h'
 have HX : Hid (∀ w', Rd W0 c (s.enter sMinus) w' → Calls Tryz.prog 69 #[.pointer (some ⟨c, 0, none⟩)] w' (ExC W0 c w' r)) := by
   show ∀ w', _
   intro w' h'; have := IH W0 w' c _ hv h' hen; rw [hr] at this; exact this
 have HRD := Lib.hid h
 rw [hR]
 clear hR hr hsig hen hn IH hv h h0 hle
 go_enter Tryz.func69, Tryz.ntmps69
 go_wp2_with fail
 refine gen_world (fun W => Bx W w.heap.size #[.int .i64 0, .int .i32 0, .string ⟨#[]⟩, .string ⟨#[]⟩, .string ⟨#[]⟩, .slice none 0 0, .string ⟨#[]⟩, .int .i64 0] 36 ∧ Mv W0 c s w W ∧ W.heap.size = w.heap.size + 1) ?_ ?_
 · exact ⟨Bx.new _ _ _, Mv.box HRD.out _, by simp⟩
 rintro W ⟨hx, hmv, hz⟩
 have HX0 := Lib.hid hx
 have HM0 := Lib.hid hmv
 clear hx hmv
 go_loopw [7] (fun v7 wr => ∃ j : Nat, v7 = .int .i64 j ∧ j ≤ 0 ∧ wr = W) (fun v7 wr => 0 - (intOf v7).toNat)
 case atStart => exact ⟨0, rfl, by omega, rfl⟩
 case round =>
   obtain ⟨j, rfl, hj, rfl⟩ := hrel
   have hjs : j = 0 := by omega
   rcases hjs with rfl
   · go_wp2_with (first | (go_at_call 83; refine (T0.out _ HM0.out.2).mono ?_; rintro e w1 ⟨rfl, rfl⟩) | (go_at_call 101; refine (HEN.out _ HM0.out.2).mono ?_; clear HEN; rintro e w2 ⟨rfl, hm⟩; have HM1 := Lib.hid hm; clear hm))
     refine (HX.out _ HM1.out.2).mono ?_
     clear HX
     rintro e w3 ⟨y, rfl, hk, hm⟩
     have HK := Lib.hid hk
     obtain ⟨k, m, tx, nm, ty, A, cap, l, rfl, hsz, _, hbe⟩ := hk
     have HBE := Lib.hid hbe
     have HM := Lib.hid ((HM0.out.trans HM1.out).trans hm)
     have hb1 := HM1.out.1.size
     have hb2 := hm.1.size
     have HBX : Hid (Bx w3 w.heap.size _ _) := (hm.1.block _ (by omega) (by simp; omega)).trans ((HM1.out.1.block _ (by omega) (by simp; omega)).trans HX0.out)
     obtain ⟨W4, hW4⟩ : ∃ W4, w3.alloc (.cells #[.int .i64 k, .int .i32 m, .string tx, .string nm, .string ty, .slice A l.length cap, .string ⟨#[]⟩, .int .i64 0] 36) = W4 := ⟨_, rfl⟩
     have hb4 : Below w3.heap.size w3 W4 := by rw [← hW4]; exact (Below.refl _ _).alloc (Nat.le_refl _) _
     have hy4 : Bx W4 w3.heap.size #[.int .i64 k, .int .i32 m, .string tx, .string nm, .string ty, .slice A l.length cap, .string ⟨#[]⟩, .int .i64 0] 36 := by rw [← hW4]; exact Bx.new _ _ _
     have hm4 : Mv W0 c r.2 w3 W4 := Mv.below hb4 hm.2
     obtain ⟨d2, f2⟩ := hm4.2.op
     obtain ⟨W5, hW5⟩ : ∃ W5, W4.setCell ⟨c, 2, none⟩ (.int .i64 (wrap64 (r.2.op - 1))) = W5 := ⟨_, rfl⟩
     have hm5 : Mv W0 c r.2.dec W4 W5 := by rw [← hW5]; exact hm4.2.dec
     have hy5 : Bx W5 w3.heap.size _ _ := (hm5.1.block _ hy4.lt (by simp; omega)).trans hy4
     obtain ⟨a0, a1, a2, a3, a4, a5, a6, a7⟩ := hy5.all_8
     obtain ⟨W6, hW6⟩ : ∃ W6, W5.alloc (.cells #[.int .i64 k, .int .i32 m, .string tx, .string nm, .string ty, .slice A l.length cap, .string ⟨#[]⟩, .int .i64 0] 36) = W6 := ⟨_, rfl⟩
     have hb6 : Below W5.heap.size W5 W6 := by rw [← hW6]; exact (Below.refl _ _).alloc (Nat.le_refl _) _
     have hs4 := hb4.size
     have hs5 := hm5.1.size
     have hs6 := hb6.size
     have HK5 := (HK.out.below hb4).grown hm5.1 (.inl (by omega))
     have HO6 := OwnE.one HK5 (by omega)
     simp only [cellsN] at HO6
     rw [hW6] at HO6
     have HBX6 := Lib.hid (Bx.next (Bx.grown (Bx.next HBX.out hb4) hm5.1 (by omega)) hb6)
     have hx2 := HBX6.out
     obtain ⟨r0, r1, r2, r3, r4, r5, r6, r7⟩ := hx2.all_8
     have g0 := hx2.fro 0; have g1 := hx2.fro 1; have g2 := hx2.fro 2; have g3 := hx2.fro 3; have g4 := hx2.fro 4; have g5 := hx2.fro 5; have g6 := hx2.fro 6; have g7 := hx2.fro 7
     have hg := grown_8 W6 w.heap.size (.int .i64 18) (.int .i32 0) (.string ⟨#[]⟩) (.string ⟨#[45]⟩) (.string ⟨#[]⟩) (.slice (some ⟨W5.heap.size, 0, none⟩) 1 1) (.string ⟨#[]⟩) (.int .i64 0)
     have HM6 := Lib.hid (((HM.out.trans hm4).trans hm5).trans (Mv.below hb6 hm5.2))
     have HO := Lib.hid HO6
     have HG := Lib.hid hg
     clear hm hbe hm4 hm5 hy4 hy5 hb4 hb6 hx2 hg HO6 HK5
     subst hW4
     simp only [cellsN]
     go_wp2_with fail
     obtain ⟨z0, z1, z2, z3, z4, z5, z6, z7⟩ := (HBX6.out.to_8 (.int .i64 18) (.int .i32 0) (.string ⟨#[]⟩) (.string ⟨#[45]⟩) (.string ⟨#[]⟩) (.slice (some ⟨W5.heap.size, 0, none⟩) 1 1) (.string ⟨#[]⟩) (.int .i64 0)).all_8
     (try simp only [Exit.inBlock, Exit.then])
     refine bodyPost_ret (v := .agg #[.int .i64 18, .int .i32 0, .string ⟨#[]⟩, .string ⟨#[45]⟩, .string ⟨#[]⟩, .slice (some ⟨W5.heap.size, 0, none⟩) 1 1, .string ⟨#[]⟩, .int .i64 0]) (by simp [results, Tryz.results69, go_sem, z0, z1, z2, z3, z4, z5, z6, z7]) rfl ?_
     exact ⟨.ex 18 0 ⟨#[]⟩ ⟨#[45]⟩ ⟨#[]⟩ (.slice (some ⟨W5.heap.size, 0, none⟩) 1 1) [_] ⟨#[]⟩ 0, rfl, ((HO.out.node 18 0 ⟨#[]⟩ ⟨#[45]⟩ ⟨#[]⟩ (by decide +kernel) (mk_bare (bare_one HBE.out) _ _ _ _ _)).grown HG.out (.inl (by omega))).mono (by omega), Mv.over (Below.refl _ _) HM6.out HG.out (Nat.le_refl _) hlt⟩
theorem signed_1 (n : Nat) (IH : SpecS n) (W0 w : World) (c : Nat) (s : RS) (hv : Vars W0) (h : Rd W0 c s w) (hn : enough (n + 1) .signed s) (h0 : s.sees 0 sMinus = false) (h1 : s.sees 0 sNot = true) : Calls Tryz.prog 69 #[.pointer (some ⟨c, 0, none⟩)] w (ExC W0 c w (run (n + 1) .signed s)) := by
 obtain ⟨r, hr⟩ : ∃ r, run n .signed (s.enter sNot) = r := ⟨_, rfl⟩
 have hsig : signOf s = some sNot := by simp [signOf, h0, h1]
 have hR : run (n + 1) .signed s = ([mkE 18 0 E0 sNot E0 [hdE r.1]], r.2.dec) := by simp only [run, hsig, hr]
 have hle := sees_len h1
 have hen : enough n .signed (s.enter sNot) := by have := len_enter s sNot; simp only [enough, Md.rank] at hn ⊢; omega
 have hlt := h.lt
 have hle0 := h.le
 have T0 : Hid (∀ w', Rd W0 c s w' → Calls Tryz.prog 83 #[.pointer (some ⟨c, 0, none⟩), .string sMinus] w' fun e w'' => e = .returned (.bool false) ∧ w' = w'') := by
   show ∀ w', _
   intro w' h'; have := sees_any W0 w' c s sMinus h'; rw [h0] at this; exact this
 have T1 : Hid (∀ w', Rd W0 c s w' → Calls Tryz.prog 83 #[.pointer (some ⟨c, 0, none⟩), .string sNot] w' fun e w'' => e = .returned (.bool true) ∧ w' = w'') := by
   show ∀ w', _
   intro w' h'; have := sees_any W0 w' c s sNot h'; rw [h1] at this; exact this
 have HEN : Hid (∀ w', Rd W0 c s w' → Calls Tryz.prog 101 #[.pointer (some ⟨c, 0, none⟩), .string sNot] w' fun e w'' => e = .returned (.tuple #[]) ∧ Mv W0 c (s.enter sNot) w' w'') := by
   show ∀ w', _
   intro w' h'; exact enter_any W0 w' c s sNot h'
 have HX : Hid (∀ w', Rd W0 c (s.enter sNot) w' → Calls Tryz.prog 69 #[.pointer (some ⟨c, 0, none⟩)] w' (ExC W0 c w' r)) := by
   show ∀ w', _
   intro w' h'; have := IH W0 w' c _ hv h' hen; rw [hr] at this; exact this
 have HRD := Lib.hid h
 rw [hR]
 clear hR hr hsig hen hn IH hv h h0 h1 hle
 go_enter Tryz.func69, Tryz.ntmps69
 go_wp2_with fail
 refine gen_world (fun W => Bx W w.heap.size #[.int .i64 0, .int .i32 0, .string ⟨#[]⟩, .string ⟨#[]⟩, .string ⟨#[]⟩, .slice none 0 0, .string ⟨#[]⟩, .int .i64 0] 36 ∧ Mv W0 c s w W ∧ W.heap.size = w.heap.size + 1) ?_ ?_
 · exact ⟨Bx.new _ _ _, Mv.box HRD.out _, by simp⟩
 rintro W ⟨hx, hmv, hz⟩
 have HX0 := Lib.hid hx
 have HM0 := Lib.hid hmv
 clear hx hmv
 go_loopw [7] (fun v7 wr => ∃ j : Nat, v7 = .int .i64 j ∧ j ≤ 1 ∧ wr = W) (fun v7 wr => 1 - (intOf v7).toNat)
 case atStart => exact ⟨0, rfl, by omega, rfl⟩
 case round =>
   obtain ⟨j, rfl, hj, rfl⟩ := hrel
   have hjs : j = 0 ∨ j = 1 := by omega
   rcases hjs with rfl | rfl
   · go_wp2_with (go_at_call 83; refine (T0.out _ HM0.out.2).mono ?_; rintro e w1 ⟨rfl, rfl⟩)
     go_roundw
     case rel => exact ⟨1, by go_num, by omega, by simp⟩
     case measure => simp [intOf]; try omega
   · go_wp2_with (first | (go_at_call 83; refine (T1.out _ HM0.out.2).mono ?_; rintro e w1 ⟨rfl, rfl⟩) | (go_at_call 101; refine (HEN.out _ HM0.out.2).mono ?_; clear HEN; rintro e w2 ⟨rfl, hm⟩; have HM1 := Lib.hid hm; clear hm))
     refine (HX.out _ HM1.out.2).mono ?_
     clear HX
     rintro e w3 ⟨y, rfl, hk, hm⟩
     have HK := Lib.hid hk
     obtain ⟨k, m, tx, nm, ty, A, cap, l, rfl, hsz, _, hbe⟩ := hk
     have HBE := Lib.hid hbe
     have HM := Lib.hid ((HM0.out.trans HM1.out).trans hm)
     have hb1 := HM1.out.1.size
     have hb2 := hm.1.size
     have HBX : Hid (Bx w3 w.heap.size _ _) := (hm.1.block _ (by omega) (by simp; omega)).trans ((HM1.out.1.block _ (by omega) (by simp; omega)).trans HX0.out)
     obtain ⟨W4, hW4⟩ : ∃ W4, w3.alloc (.cells #[.int .i64 k, .int .i32 m, .string tx, .string nm, .string ty, .slice A l.length cap, .string ⟨#[]⟩, .int .i64 0] 36) = W4 := ⟨_, rfl⟩
     have hb4 : Below w3.heap.size w3 W4 := by rw [← hW4]; exact (Below.refl _ _).alloc (Nat.le_refl _) _
     have hy4 : Bx W4 w3.heap.size #[.int .i64 k, .int .i32 m, .string tx, .string nm, .string ty, .slice A l.length cap, .string ⟨#[]⟩, .int .i64 0] 36 := by rw [← hW4]; exact Bx.new _ _ _
     have hm4 : Mv W0 c r.2 w3 W4 := Mv.below hb4 hm.2
     obtain ⟨d2, f2⟩ := hm4.2.op
     obtain ⟨W5, hW5⟩ : ∃ W5, W4.setCell ⟨c, 2, none⟩ (.int .i64 (wrap64 (r.2.op - 1))) = W5 := ⟨_, rfl⟩
     have hm5 : Mv W0 c r.2.dec W4 W5 := by rw [← hW5]; exact hm4.2.dec
     have hy5 : Bx W5 w3.heap.size _ _ := (hm5.1.block _ hy4.lt (by simp; omega)).trans hy4
     obtain ⟨a0, a1, a2, a3, a4, a5, a6, a7⟩ := hy5.all_8
     obtain ⟨W6, hW6⟩ : ∃ W6, W5.alloc (.cells #[.int .i64 k, .int .i32 m, .string tx, .string nm, .string ty, .slice A l.length cap, .string ⟨#[]⟩, .int .i64 0] 36) = W6 := ⟨_, rfl⟩
     have hb6 : Below W5.heap.size W5 W6 := by rw [← hW6]; exact (Below.refl _ _).alloc (Nat.le_refl _) _
     have hs4 := hb4.size
     have hs5 := hm5.1.size
     have hs6 := hb6.size
     have HK5 := (HK.out.below hb4).grown hm5.1 (.inl (by omega))
     have HO6 := OwnE.one HK5 (by omega)
     simp only [cellsN] at HO6
     rw [hW6] at HO6
     have HBX6 := Lib.hid (Bx.next (Bx.grown (Bx.next HBX.out hb4) hm5.1 (by omega)) hb6)
     have hx2 := HBX6.out
     obtain ⟨r0, r1, r2, r3, r4, r5, r6, r7⟩ := hx2.all_8
     have g0 := hx2.fro 0; have g1 := hx2.fro 1; have g2 := hx2.fro 2; have g3 := hx2.fro 3; have g4 := hx2.fro 4; have g5 := hx2.fro 5; have g6 := hx2.fro 6; have g7 := hx2.fro 7
     have hg := grown_8 W6 w.heap.size (.int .i64 18) (.int .i32 0) (.string ⟨#[]⟩) (.string ⟨#[33]⟩) (.string ⟨#[]⟩) (.slice (some ⟨W5.heap.size, 0, none⟩) 1 1) (.string ⟨#[]⟩) (.int .i64 0)
     have HM6 := Lib.hid (((HM.out.trans hm4).trans hm5).trans (Mv.below hb6 hm5.2))
     have HO := Lib.hid HO6
     have HG := Lib.hid hg
     clear hm hbe hm4 hm5 hy4 hy5 hb4 hb6 hx2 hg HO6 HK5
     subst hW4
     simp only [cellsN]
     go_wp2_with fail
     obtain ⟨z0, z1, z2, z3, z4, z5, z6, z7⟩ := (HBX6.out.to_8 (.int .i64 18) (.int .i32 0) (.string ⟨#[]⟩) (.string ⟨#[33]⟩) (.string ⟨#[]⟩) (.slice (some ⟨W5.heap.size, 0, none⟩) 1 1) (.string ⟨#[]⟩) (.int .i64 0)).all_8
     (try simp only [Exit.inBlock, Exit.then])
     refine bodyPost_ret (v := .agg #[.int .i64 18, .int .i32 0, .string ⟨#[]⟩, .string ⟨#[33]⟩, .string ⟨#[]⟩, .slice (some ⟨W5.heap.size, 0, none⟩) 1 1, .string ⟨#[]⟩, .int .i64 0]) (by simp [results, Tryz.results69, go_sem, z0, z1, z2, z3, z4, z5, z6, z7]) rfl ?_
     exact ⟨.ex 18 0 ⟨#[]⟩ ⟨#[33]⟩ ⟨#[]⟩ (.slice (some ⟨W5.heap.size, 0, none⟩) 1 1) [_] ⟨#[]⟩ 0, rfl, ((HO.out.node 18 0 ⟨#[]⟩ ⟨#[33]⟩ ⟨#[]⟩ (by decide +kernel) (mk_bare (bare_one HBE.out) _ _ _ _ _)).grown HG.out (.inl (by omega))).mono (by omega), Mv.over (Below.refl _ _) HM6.out HG.out (Nat.le_refl _) hlt⟩
theorem signed_2 (n : Nat) (IH : SpecS n) (W0 w : World) (c : Nat) (s : RS) (hv : Vars W0) (h : Rd W0 c s w) (hn : enough (n + 1) .signed s) (h0 : s.sees 0 sMinus = false) (h1 : s.sees 0 sNot = false) (h2 : s.sees 0 sLen = true) : Calls Tryz.prog 69 #[.pointer (some ⟨c, 0, none⟩)] w (ExC W0 c w (run (n + 1) .signed s)) := by
 obtain ⟨r, hr⟩ : ∃ r, run n .signed (s.enter sLen) = r := ⟨_, rfl⟩
 have hsig : signOf s = some sLen := by simp [signOf, h0, h1, h2]
 have hR : run (n + 1) .signed s = ([mkE 18 0 E0 sLen E0 [hdE r.1]], r.2.dec) := by simp only [run, hsig, hr]
 have hle := sees_len h2
 have hen : enough n .signed (s.enter sLen) := by have := len_enter s sLen; simp only [enough, Md.rank] at hn ⊢; omega
 have hlt := h.lt
 have hle0 := h.le
 have T0 : Hid (∀ w', Rd W0 c s w' → Calls Tryz.prog 83 #[.pointer (some ⟨c, 0, none⟩), .string sMinus] w' fun e w'' => e = .returned (.bool false) ∧ w' = w'') := by
   show ∀ w', _
   intro w' h'; have := sees_any W0 w' c s sMinus h'; rw [h0] at this; exact this
 have T1 : Hid (∀ w', Rd W0 c s w' → Calls Tryz.prog 83 #[.pointer (some ⟨c, 0, none⟩), .string sNot] w' fun e w'' => e = .returned (.bool false) ∧ w' = w'') := by
   show ∀ w', _
   intro w' h'; have := sees_any W0 w' c s sNot h'; rw [h1] at this; exact this
 have T2 : Hid (∀ w', Rd W0 c s w' → Calls Tryz.prog 83 #[.pointer (some ⟨c, 0, none⟩), .string sLen] w' fun e w'' => e = .returned (.bool true) ∧ w' = w'') := by
   show ∀ w', _
   intro w' h'; have := sees_any W0 w' c s sLen h'; rw [h2] at this; exact this
 have HEN : Hid (∀ w', Rd W0 c s w' → Calls Tryz.prog 101 #[.pointer (some ⟨c, 0, none⟩), .string sLen] w' fun e w'' => e = .returned (.tuple #[]) ∧ Mv W0 c (s.enter sLen) w' w'') := by
   show ∀ w', _
   intro w' h'; exact enter_any W0 w' c s sLen h'
 have HX : Hid (∀ w', Rd W0 c (s.enter sLen) w' → Calls Tryz.prog 69 #[.pointer (some ⟨c, 0, none⟩)] w' (ExC W0 c w' r)) := by
   show ∀ w', _
   intro w' h'; have := IH W0 w' c _ hv h' hen; rw [hr] at this; exact this
 have HRD := Lib.hid h
 rw [hR]
 clear hR hr hsig hen hn IH hv h h0 h1 h2 hle
 go_enter Tryz.func69, Tryz.ntmps69
 go_wp2_with fail
 refine gen_world (fun W => Bx W w.heap.size #[.int .i64 0, .int .i32 0, .string ⟨#[]⟩, .string ⟨#[]⟩, .string ⟨#[]⟩, .slice none 0 0, .string ⟨#[]⟩, .int .i64 0] 36 ∧ Mv W0 c s w W ∧ W.heap.size = w.heap.size + 1) ?_ ?_
 · exact ⟨Bx.new _ _ _, Mv.box HRD.out _, by simp⟩
 rintro W ⟨hx, hmv, hz⟩
 have HX0 := Lib.hid hx
 have HM0 := Lib.hid hmv
 clear hx hmv
 go_loopw [7] (fun v7 wr => ∃ j : Nat, v7 = .int .i64 j ∧ j ≤ 2 ∧ wr = W) (fun v7 wr => 2 - (intOf v7).toNat)
 case atStart => exact ⟨0, rfl, by omega, rfl⟩
 case round =>
   obtain ⟨j, rfl, hj, rfl⟩ := hrel
   have hjs : j = 0 ∨ j = 1 ∨ j = 2 := by omega
   rcases hjs with rfl | rfl | rfl
   · go_wp2_with (go_at_call 83; refine (T0.out _ HM0.out.2).mono ?_; rintro e w1 ⟨rfl, rfl⟩)
     go_roundw
     case rel => exact ⟨1, by go_num, by omega, by simp⟩
     case measure => simp [intOf]; try omega
   · go_wp2_with (go_at_call 83; refine (T1.out _ HM0.out.2).mono ?_; rintro e w1 ⟨rfl, rfl⟩)
     go_roundw
     case rel => exact ⟨2, by go_num, by omega, by simp⟩
     case measure => simp [intOf]; try omega
   · go_wp2_with (first | (go_at_call 83; refine (T2.out _ HM0.out.2).mono ?_; rintro e w1 ⟨rfl, rfl⟩) | (go_at_call 101; refine (HEN.out _ HM0.out.2).mono ?_; clear HEN; rintro e w2 ⟨rfl, hm⟩; have HM1 := Lib.hid hm; clear hm))
     refine (HX.out _ HM1.out.2).mono ?_
     clear HX
     rintro e w3 ⟨y, rfl, hk, hm⟩
     have HK := Lib.hid hk
     obtain ⟨k, m, tx, nm, ty, A, cap, l, rfl, hsz, _, hbe⟩ := hk
     have HBE := Lib.hid hbe
     have HM := Lib.hid ((HM0.out.trans HM1.out).trans hm)
     have hb1 := HM1.out.1.size
     have hb2 := hm.1.size
     have HBX : Hid (Bx w3 w.heap.size _ _) := (hm.1.block _ (by omega) (by simp; omega)).trans ((HM1.out.1.block _ (by omega) (by simp; omega)).trans HX0.out)
     obtain ⟨W4, hW4⟩ : ∃ W4, w3.alloc (.cells #[.int .i64 k, .int .i32 m, .string tx, .string nm, .string ty, .slice A l.length cap, .string ⟨#[]⟩, .int .i64 0] 36) = W4 := ⟨_, rfl⟩
     have hb4 : Below w3.heap.size w3 W4 := by rw [← hW4]; exact (Below.refl _ _).alloc (Nat.le_refl _) _
     have hy4 : Bx W4 w3.heap.size #[.int .i64 k, .int .i32 m, .string tx, .string nm, .string ty, .slice A l.length cap, .string ⟨#[]⟩, .int .i64 0] 36 := by rw [← hW4]; exact Bx.new _ _ _
     have hm4 : Mv W0 c r.2 w3 W4 := Mv.below hb4 hm.2
     obtain ⟨d2, f2⟩ := hm4.2.op
     obtain ⟨W5, hW5⟩ : ∃ W5, W4.setCell ⟨c, 2, none⟩ (.int .i64 (wrap64 (r.2.op - 1))) = W5 := ⟨_, rfl⟩
     have hm5 : Mv W0 c r.2.dec W4 W5 := by rw [← hW5]; exact hm4.2.dec
     have hy5 : Bx W5 w3.heap.size _ _ := (hm5.1.block _ hy4.lt (by simp; omega)).trans hy4
     obtain ⟨a0, a1, a2, a3, a4, a5, a6, a7⟩ := hy5.all_8
     obtain ⟨W6, hW6⟩ : ∃ W6, W5.alloc (.cells #[.int .i64 k, .int .i32 m, .string tx, .string nm, .string ty, .slice A l.length cap, .string ⟨#[]⟩, .int .i64 0] 36) = W6 := ⟨_, rfl⟩
     have hb6 : Below W5.heap.size W5 W6 := by rw [← hW6]; exact (Below.refl _ _).alloc (Nat.le_refl _) _
     have hs4 := hb4.size
     have hs5 := hm5.1.size
     have hs6 := hb6.size
     have HK5 := (HK.out.below hb4).grown hm5.1 (.inl (by omega))
     have HO6 := OwnE.one HK5 (by omega)
     simp only [cellsN] at HO6
     rw [hW6] at HO6
     have HBX6 := Lib.hid (Bx.next (Bx.grown (Bx.next HBX.out hb4) hm5.1 (by omega)) hb6)
     have hx2 := HBX6.out
     obtain ⟨r0, r1, r2, r3, r4, r5, r6, r7⟩ := hx2.all_8
     have g0 := hx2.fro 0; have g1 := hx2.fro 1; have g2 := hx2.fro 2; have g3 := hx2.fro 3; have g4 := hx2.fro 4; have g5 := hx2.fro 5; have g6 := hx2.fro 6; have g7 := hx2.fro 7
     have hg := grown_8 W6 w.heap.size (.int .i64 18) (.int .i32 0) (.string ⟨#[]⟩) (.string ⟨#[35]⟩) (.string ⟨#[]⟩) (.slice (some ⟨W5.heap.size, 0, none⟩) 1 1) (.string ⟨#[]⟩) (.int .i64 0)
     have HM6 := Lib.hid (((HM.out.trans hm4).trans hm5).trans (Mv.below hb6 hm5.2))
     have HO := Lib.hid HO6
     have HG := Lib.hid hg
     clear hm hbe hm4 hm5 hy4 hy5 hb4 hb6 hx2 hg HO6 HK5
     subst hW4
     simp only [cellsN]
     go_wp2_with fail
     obtain ⟨z0, z1, z2, z3, z4, z5, z6, z7⟩ := (HBX6.out.to_8 (.int .i64 18) (.int .i32 0) (.string ⟨#[]⟩) (.string ⟨#[35]⟩) (.string ⟨#[]⟩) (.slice (some ⟨W5.heap.size, 0, none⟩) 1 1) (.string ⟨#[]⟩) (.int .i64 0)).all_8
     (try simp only [Exit.inBlock, Exit.then])
     refine bodyPost_ret (v := .agg #[.int .i64 18, .int .i32 0, .string ⟨#[]⟩, .string ⟨#[35]⟩, .string ⟨#[]⟩, .slice (some ⟨W5.heap.size, 0, none⟩) 1 1, .string ⟨#[]⟩, .int .i64 0]) (by simp [results, Tryz.results69, go_sem, z0, z1, z2, z3, z4, z5, z6, z7]) rfl ?_
     exact ⟨.ex 18 0 ⟨#[]⟩ ⟨#[35]⟩ ⟨#[]⟩ (.slice (some ⟨W5.heap.size, 0, none⟩) 1 1) [_] ⟨#[]⟩ 0, rfl, ((HO.out.node 18 0 ⟨#[]⟩ ⟨#[35]⟩ ⟨#[]⟩ (by decide +kernel) (mk_bare (bare_one HBE.out) _ _ _ _ _)).grown HG.out (.inl (by omega))).mono (by omega), Mv.over (Below.refl _ _) HM6.out HG.out (Nat.le_refl _) hlt⟩
theorem signed_3 (n : Nat) (IH : SpecF n) (W0 w : World) (c : Nat) (s : RS) (hv : Vars W0) (h : Rd W0 c s w) (hn : enough (n + 1) .signed s) (h0 : s.sees 0 sMinus = false) (h1 : s.sees 0 sNot = false) (h2 : s.sees 0 sLen = false) : Calls Tryz.prog 69 #[.pointer (some ⟨c, 0, none⟩)] w (ExC W0 c w (run (n + 1) .signed s)) := by
 obtain ⟨r, hr⟩ : ∃ r, run n .followed s = r := ⟨_, rfl⟩
 have hsig : signOf s = none := by simp [signOf, h0, h1, h2]
 have hR : run (n + 1) .signed s = r := by simp only [run, hsig, hr]
 have hen : enough n .followed s := by simp only [enough, Md.rank] at hn ⊢; omega
 have hlt := h.lt
 have hle0 := h.le
 have T0 : Hid (∀ w', Rd W0 c s w' → Calls Tryz.prog 83 #[.pointer (some ⟨c, 0, none⟩), .string sMinus] w' fun e w'' => e = .returned (.bool false) ∧ w' = w'') := by
   show ∀ w', _
   intro w' h'; have := sees_any W0 w' c s sMinus h'; rw [h0] at this; exact this
 have T1 : Hid (∀ w', Rd W0 c s w' → Calls Tryz.prog 83 #[.pointer (some ⟨c, 0, none⟩), .string sNot] w' fun e w'' => e = .returned (.bool false) ∧ w' = w'') := by
   show ∀ w', _
   intro w' h'; have := sees_any W0 w' c s sNot h'; rw [h1] at this; exact this
 have T2 : Hid (∀ w', Rd W0 c s w' → Calls Tryz.prog 83 #[.pointer (some ⟨c, 0, none⟩), .string sLen] w' fun e w'' => e = .returned (.bool false) ∧ w' = w'') := by
   show ∀ w', _
   intro w' h'; have := sees_any W0 w' c s sLen h'; rw [h2] at this; exact this
 have HX : Hid (∀ w', Rd W0 c s w' → Calls Tryz.prog 102 #[.pointer (some ⟨c, 0, none⟩)] w' (ExC W0 c w' r)) := by
   show ∀ w', _
   intro w' h'; have := IH W0 w' c _ hv h' hen; rw [hr] at this; exact this
 have HRD := Lib.hid h
 rw [hR]
 clear hR hr hsig hen hn IH hv h h0 h1 h2
 go_enter Tryz.func69, Tryz.ntmps69
 go_wp2_with fail
 refine gen_world (fun W => Bx W w.heap.size #[.int .i64 0, .int .i32 0, .string ⟨#[]⟩, .string ⟨#[]⟩, .string ⟨#[]⟩, .slice none 0 0, .string ⟨#[]⟩, .int .i64 0] 36 ∧ Mv W0 c s w W ∧ W.heap.size = w.heap.size + 1) ?_ ?_
 · exact ⟨Bx.new _ _ _, Mv.box HRD.out _, by simp⟩
 rintro W ⟨hx, hmv, hz⟩
 have HX0 := Lib.hid hx
 have HM0 := Lib.hid hmv
 clear hx hmv
 go_loopw [7] (fun v7 wr => ∃ j : Nat, v7 = .int .i64 j ∧ j ≤ 3 ∧ wr = W) (fun v7 wr => 3 - (intOf v7).toNat)
 case atStart => exact ⟨0, rfl, by omega, rfl⟩
 case round =>
   obtain ⟨j, rfl, hj, rfl⟩ := hrel
   have hjs : j = 0 ∨ j = 1 ∨ j = 2 ∨ j = 3 := by omega
   rcases hjs with rfl | rfl | rfl | rfl
   · go_wp2_with (go_at_call 83; refine (T0.out _ HM0.out.2).mono ?_; rintro e w1 ⟨rfl, rfl⟩)
     go_roundw
     case rel => exact ⟨1, by go_num, by omega, by simp⟩
     case measure => simp [intOf]; try omega
   · go_wp2_with (go_at_call 83; refine (T1.out _ HM0.out.2).mono ?_; rintro e w1 ⟨rfl, rfl⟩)
     go_roundw
     case rel => exact ⟨2, by go_num, by omega, by simp⟩
     case measure => simp [intOf]; try omega
   · go_wp2_with (go_at_call 83; refine (T2.out _ HM0.out.2).mono ?_; rintro e w1 ⟨rfl, rfl⟩)
     go_roundw
     case rel => exact ⟨3, by go_num, by omega, by simp⟩
     case measure => simp [intOf]; try omega
   · go_wp2_with fail
     refine (HX.out _ HM0.out.2).mono ?_
     clear HX
     rintro e w2 ⟨y, rfl, hk, hm⟩
     have HK := Lib.hid hk
     obtain ⟨k, m, tx, nm, ty, A, cap, l, rfl, _, _, _⟩ := hk
     have HBX : Hid (Bx w2 w.heap.size _ _) := (hm.1.block _ (by omega) (by simp; omega)).trans HX0.out
     have hx2 := HBX.out
     obtain ⟨r0, r1, r2, r3, r4, r5, r6, r7⟩ := hx2.all_8
     have g0 := hx2.fro 0; have g1 := hx2.fro 1; have g2 := hx2.fro 2; have g3 := hx2.fro 3; have g4 := hx2.fro 4; have g5 := hx2.fro 5; have g6 := hx2.fro 6; have g7 := hx2.fro 7
     have hg := grown_8 w2 w.heap.size (.int .i64 k) (.int .i32 m) (.string tx) (.string nm) (.string ty) (.slice A l.length cap) (.string ⟨#[]⟩) (.int .i64 0)
     have HM := Lib.hid (HM0.out.trans hm)
     have HG := Lib.hid hg
     clear hm hx2 hg
     simp only [cellsN]
     go_wp2_with fail
     obtain ⟨z0, z1, z2, z3, z4, z5, z6, z7⟩ := (HBX.out.to_8 (.int .i64 k) (.int .i32 m) (.string tx) (.string nm) (.string ty) (.slice A l.length cap) (.string ⟨#[]⟩) (.int .i64 0)).all_8
     (try simp only [Exit.inBlock, Exit.then])
     refine bodyPost_ret (v := .agg #[.int .i64 k, .int .i32 m, .string tx, .string nm, .string ty, .slice A l.length cap, .string ⟨#[]⟩, .int .i64 0]) (by simp [results, Tryz.results69, go_sem, z0, z1, z2, z3, z4, z5, z6, z7]) rfl ?_
     exact ⟨_, rfl, (HK.out.grown HG.out (.inl (by omega))).mono (by omega), Mv.over (Below.refl _ _) HM.out HG.out (Nat.le_refl _) hlt⟩
end
end Go.Proofs.YtnbfajmdfkgebaaGreatDoor
