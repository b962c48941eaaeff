/- Parts of the proof: TreeJ, TreeK, TreeL, TreeM, TreeO. -/
import Derived.Test.YtipcoglddfgopaaGreatDoorFit
import Derived.Test.YtipcoglddfgopaaGreatDoorP11
set_option maxHeartbeats 4000000
set_option maxRecDepth 100000
namespace Go.Proofs.YtipcoglddfgopaaGreatDoor
set_option linter.unusedSimpArgs false
set_option linter.unusedVariables false
section
open Go.RowKit
theorem kout (k : Int) (h1 : ¬ k = 1) (h2 : ¬ k = 2) (h3 : ¬ k = 3) (h4 : ¬ k = 4) (h5 : ¬ k = 5) (h6 : ¬ k = 6) (h7 : ¬ k = 7) (h8 : ¬ k = 8) (h9 : ¬ k = 9) (h10 : ¬ k = 10) (h11 : ¬ k = 11) (h12 : ¬ k = 12) (h13 : ¬ k = 13) (h14 : ¬ k = 14) (h15 : ¬ k = 15) (h16 : ¬ k = 16) (h17 : ¬ k = 17) (h18 : ¬ k = 18) : k < 1 ∨ 18 < k := by
 rcases Int.lt_or_le k 1 with h | h
 · exact .inl h
 · refine .inr ?_
   have step : ∀ j : Int, j ≤ k → ¬ k = j → j + 1 ≤ k := fun j a b => by omega
   have g1 := step 1 h h1
   have g2 := step 2 g1 h2
   have g3 := step 3 g2 h3
   have g4 := step 4 g3 h4
   have g5 := step 5 g4 h5
   have g6 := step 6 g5 h6
   have g7 := step 7 g6 h7
   have g8 := step 8 g7 h8
   have g9 := step 9 g8 h9
   have g10 := step 10 g9 h10
   have g11 := step 11 g10 h11
   have g12 := step 12 g11 h12
   have g13 := step 13 g12 h13
   have g14 := step 14 g13 h14
   have g15 := step 15 g14 h15
   have g16 := step 16 g15 h16
   have g17 := step 17 g16 h17
   have g18 := step 18 g17 h18
   clear h1 h2 h3 h4 h5 h6 h7 h8 h9 h10 h11 h12 h13 h14 h15 h16 h17 h18
   omega
theorem kall (k : Int) : (k < 1 ∨ 18 < k) ∨ k = 1 ∨ k = 2 ∨ k = 3 ∨ k = 4 ∨ k = 5 ∨ k = 6 ∨ k = 7 ∨ k = 8 ∨ k = 9 ∨ k = 10 ∨ k = 11 ∨ k = 12 ∨ k = 13 ∨ k = 14 ∨ k = 15 ∨ k = 16 ∨ k = 17 ∨ k = 18 :=
 if h1 : k = 1 then .inr (.inl h1) else
 if h2 : k = 2 then .inr (.inr (.inl h2)) else
 if h3 : k = 3 then .inr (.inr (.inr (.inl h3))) else
 if h4 : k = 4 then .inr (.inr (.inr (.inr (.inl h4)))) else
 if h5 : k = 5 then .inr (.inr (.inr (.inr (.inr (.inl h5))))) else
 if h6 : k = 6 then .inr (.inr (.inr (.inr (.inr (.inr (.inl h6)))))) else
 if h7 : k = 7 then .inr (.inr (.inr (.inr (.inr (.inr (.inr (.inl h7))))))) else
 if h8 : k = 8 then .inr (.inr (.inr (.inr (.inr (.inr (.inr (.inr (.inl h8)))))))) else
 if h9 : k = 9 then .inr (.inr (.inr (.inr (.inr (.inr (.inr (.inr (.inr (.inl h9))))))))) else
 if h10 : k = 10 then .inr (.inr (.inr (.inr (.inr (.inr (.inr (.inr (.inr (.inr (.inl h10)))))))))) else
 if h11 : k = 11 then .inr (.inr (.inr (.inr (.inr (.inr (.inr (.inr (.inr (.inr (.inr (.inl h11))))))))))) else
 if h12 : k = 12 then .inr (.inr (.inr (.inr (.inr (.inr (.inr (.inr (.inr (.inr (.inr (.inr (.inl h12)))))))))))) else
 if h13 : k = 13 then .inr (.inr (.inr (.inr (.inr (.inr (.inr (.inr (.inr (.inr (.inr (.inr (.inr (.inl h13))))))))))))) else
 if h14 : k = 14 then .inr (.inr (.inr (.inr (.inr (.inr (.inr (.inr (.inr (.inr (.inr (.inr (.inr (.inr (.inl h14)))))))))))))) else
 if h15 : k = 15 then .inr (.inr (.inr (.inr (.inr (.inr (.inr (.inr (.inr (.inr (.inr (.inr (.inr (.inr (.inr (.inl h15))))))))))))))) else
 if h16 : k = 16 then .inr (.inr (.inr (.inr (.inr (.inr (.inr (.inr (.inr (.inr (.inr (.inr (.inr (.inr (.inr (.inr (.inl h16)))))))))))))))) else
 if h17 : k = 17 then .inr (.inr (.inr (.inr (.inr (.inr (.inr (.inr (.inr (.inr (.inr (.inr (.inr (.inr (.inr (.inr (.inr (.inl h17))))))))))))))))) else
 if h18 : k = 18 then .inr (.inr (.inr (.inr (.inr (.inr (.inr (.inr (.inr (.inr (.inr (.inr (.inr (.inr (.inr (.inr (.inr (.inr (h18)))))))))))))))))) else
 .inl (kout k h1 h2 h3 h4 h5 h6 h7 h8 h9 h10 h11 h12 h13 h14 h15 h16 h17 h18)
theorem kne {k : Int} (h : k < 1 ∨ 18 < k) (i : Int) (h1 : 1 ≤ i) (h2 : i ≤ 18) : (k == i) = false := by rw [beq_eq_false_iff_ne]; omega
theorem listE_out (k : Int) (n : Nat) (h : k < 1 ∨ 18 < k) : listE k n = false := by
 unfold listE
 rw [if_neg (by omega), if_neg (by omega), if_neg (by omega), if_neg (by omega), decide_eq_false (by omega)]
theorem exprNum_any (w : World) (b o : Nat) (k n : Int) (c0 : w.cell? ⟨b, o, none⟩ = some (.int .i64 k)) (c1 : w.cell? ⟨b, o + 1, none⟩ = some (.int .i32 n)) :
   Calls Tryz.prog 97 #[.pointer (some ⟨b, o, none⟩)] w fun e w' => e = .returned (.bool (numE k n)) ∧ w = w' := by
 go_enter Tryz.func97, Tryz.ntmps97
 go_wp2_with fail
 all_goals (go_ret; refine ⟨ret_bool ?_, rfl⟩; clear c0 c1; unfold numE; (repeat' split) <;> first | (exfalso; omega) | (rw [Bool.eq_iff_iff]; simp only [beq_iff_eq, decide_eq_true_eq, Bool.or_eq_true, Bool.and_eq_true, Bool.false_eq_true, true_iff, iff_true] <;> omega) | simp_all)
theorem binary_any (w : World) (s : ByteArray) : Calls Tryz.prog 120 #[.string s] w fun e w' => e = .returned (.bool (binB s)) ∧ w = w' := by
 go_enter Tryz.func120, Tryz.ntmps120
 go_wp2_with fail
 all_goals (go_ret; exact ⟨by simp_all [binB], rfl⟩)
theorem unary_any (w : World) (s : ByteArray) : Calls Tryz.prog 121 #[.string s] w fun e w' => e = .returned (.bool (unB s)) ∧ w = w' := by
 go_enter Tryz.func121, Tryz.ntmps121
 go_wp2_with fail
 all_goals (go_ret; exact ⟨by simp_all [unB, Bool.or_assoc], rfl⟩)
theorem exprList_any (w : World) (b o : Nat) (k : Int) (A : Option Addr) (n cap : Nat) (hn : n ≤ maxLen) (c0 : w.cell? ⟨b, o, none⟩ = some (.int .i64 k)) (c5 : w.cell? ⟨b, o + 5, none⟩ = some (.slice A n cap)) :
   Calls Tryz.prog 101 #[.pointer (some ⟨b, o, none⟩)] w fun e w' => e = .returned (.bool (listE k n)) ∧ w = w' := by
 unfold maxLen at hn
 obtain ⟨r, hr⟩ : ∃ r, listE k n = r := ⟨_, rfl⟩
 rw [hr]
 have HR := Lib.hid hr; clear hr
 rcases kall k with h | rfl | rfl | rfl | rfl | rfl | rfl | rfl | rfl | rfl | rfl | rfl | rfl | rfl | rfl | rfl | rfl | rfl | rfl
 · have HR2 := Lib.hid (HR.out.symm.trans (listE_out k n h))
   have f1 := kne h 1 (by omega) (by omega)
   have f2 := kne h 2 (by omega) (by omega)
   have f3 := kne h 3 (by omega) (by omega)
   have f4 := kne h 4 (by omega) (by omega)
   have f5 := kne h 5 (by omega) (by omega)
   have f6 := kne h 6 (by omega) (by omega)
   have f7 := kne h 7 (by omega) (by omega)
   have f8 := kne h 8 (by omega) (by omega)
   have f9 := kne h 9 (by omega) (by omega)
   have f10 := kne h 10 (by omega) (by omega)
   have f11 := kne h 11 (by omega) (by omega)
   have f12 := kne h 12 (by omega) (by omega)
   have f13 := kne h 13 (by omega) (by omega)
   have f14 := kne h 14 (by omega) (by omega)
   have f15 := kne h 15 (by omega) (by omega)
   have f16 := kne h 16 (by omega) (by omega)
   have f17 := kne h 17 (by omega) (by omega)
   have f18 := kne h 18 (by omega) (by omega)
   go_enter Tryz.func101, Tryz.ntmps101
   go_wp2_with fail
   go_ret
   exact ⟨ret_bool HR2.out.symm, rfl⟩
 all_goals go_enter Tryz.func101, Tryz.ntmps101
 all_goals go_wp2_with fail
 all_goals (go_ret; refine ⟨ret_bool ?_, rfl⟩; rw [← HR.out]; clear c0 c5; simp only [listE] <;> rw [Bool.eq_iff_iff] <;> simp <;> omega)
theorem exprText_any (w : World) (b o : Nat) (k : Int) (s : ByteArray) (hs : s.size ≤ maxLen) (c0 : w.cell? ⟨b, o, none⟩ = some (.int .i64 k)) (c2 : w.cell? ⟨b, o + 2, none⟩ = some (.string s)) :
   Calls Tryz.prog 98 #[.pointer (some ⟨b, o, none⟩)] w fun e w' => e = .returned (.bool (textE k s)) ∧ Below w.heap.size w w' := by
 have HB := Lib.hid (bad_any s w hs)
 by_cases hk : k = 3
 · subst hk
   by_cases hl : s.size ≤ 1000
   · have hl' : (s.size : Int) ≤ 1000 := by omega
     obtain ⟨q, hq⟩ : ∃ q, bad s = q := ⟨_, rfl⟩
     rw [hq] at HB
     have HT := Lib.hid (show textE 3 s = decide (q < 0) by simp only [textE, if_pos, hl, decide_true, Bool.true_and, hq])
     clear hq
     rw [HT.out]
     go_enter Tryz.func98, Tryz.ntmps98
     go_wp2_with (go_at_call 34; refine HB.out.mono ?_; clear HB; rintro e w1 ⟨rfl, hb⟩)
     go_ret
     exact ⟨rfl, hb⟩
   · have hl' : (1000 : Int) < s.size := by omega
     have HT := Lib.hid (show textE 3 s = false by simp [textE, hl])
     rw [HT.out]
     clear HB
     go_enter Tryz.func98, Tryz.ntmps98
     go_wp2_with fail
     go_ret
     exact ⟨rfl, Below.refl _ _⟩
 · have hk' : ((k : Int) == 3) = false := by rw [beq_eq_false_iff_ne]; exact hk
   have HT := Lib.hid (show textE k s = s.toList.isEmpty by simp [textE, hk, emp])
   rw [HT.out]
   clear HB
   go_enter Tryz.func98, Tryz.ntmps98
   go_wp2_with fail
   go_ret
   exact ⟨ret_bool (by first | rfl | simp [Lib.toList_data]), Below.refl _ _⟩
theorem exprType_any (w : World) (b o : Nat) (k : Int) (s : ByteArray) (hs : s.size ≤ maxLen) (c0 : w.cell? ⟨b, o, none⟩ = some (.int .i64 k)) (c4 : w.cell? ⟨b, o + 4, none⟩ = some (.string s)) :
   Calls Tryz.prog 100 #[.pointer (some ⟨b, o, none⟩)] w fun e w' => e = .returned (.bool (typeE k s)) ∧ Below w.heap.size w w' := by
 have HB := Lib.hid (class_any s w hs)
 obtain ⟨q, hq⟩ : ∃ q, classOk s = q := ⟨_, rfl⟩
 rw [hq] at HB
 obtain ⟨r, hr⟩ : ∃ r, typeE k s = r := ⟨_, rfl⟩
 rw [hr]
 have HR := Lib.hid (show (if k = 9 ∨ k = 13 ∨ k = 14 ∨ k = 15 ∨ k = 16 then q else s.toList.isEmpty) = r by rw [← hr]; simp only [typeE, hq, emp])
 clear hr hq hs
 rcases kall k with h | rfl | rfl | rfl | rfl | rfl | rfl | rfl | rfl | rfl | rfl | rfl | rfl | rfl | rfl | rfl | rfl | rfl | rfl
 · have HR2 := Lib.hid (show r = s.toList.isEmpty by rw [← HR.out, if_neg (by omega)])
   have f1 := kne h 1 (by omega) (by omega)
   have f2 := kne h 2 (by omega) (by omega)
   have f3 := kne h 3 (by omega) (by omega)
   have f4 := kne h 4 (by omega) (by omega)
   have f5 := kne h 5 (by omega) (by omega)
   have f6 := kne h 6 (by omega) (by omega)
   have f7 := kne h 7 (by omega) (by omega)
   have f8 := kne h 8 (by omega) (by omega)
   have f9 := kne h 9 (by omega) (by omega)
   have f10 := kne h 10 (by omega) (by omega)
   have f11 := kne h 11 (by omega) (by omega)
   have f12 := kne h 12 (by omega) (by omega)
   have f13 := kne h 13 (by omega) (by omega)
   have f14 := kne h 14 (by omega) (by omega)
   have f15 := kne h 15 (by omega) (by omega)
   have f16 := kne h 16 (by omega) (by omega)
   have f17 := kne h 17 (by omega) (by omega)
   have f18 := kne h 18 (by omega) (by omega)
   clear HB
   go_enter Tryz.func100, Tryz.ntmps100
   go_wp2_with fail
   go_ret
   exact ⟨ret_bool HR2.out.symm, Below.refl _ _⟩
 all_goals go_enter Tryz.func100, Tryz.ntmps100
 all_goals go_wp2_with (go_at_call 59; refine HB.out.mono ?_; clear HB; rintro e w1 ⟨rfl, hb⟩)
 all_goals (go_ret; refine ⟨ret_bool ?_, ?_⟩)
 all_goals first | exact hb | exact Below.refl _ _ | (rw [← HR.out]; done) | (rw [← HR.out]; simp)
theorem exprName_any (w : World) (b o : Nat) (k : Int) (s : ByteArray) (hs : s.size ≤ maxLen) (c0 : w.cell? ⟨b, o, none⟩ = some (.int .i64 k)) (c3 : w.cell? ⟨b, o + 3, none⟩ = some (.string s)) :
   Calls Tryz.prog 99 #[.pointer (some ⟨b, o, none⟩)] w fun e w' => e = .returned (.bool (nameE k s)) ∧ Below w.heap.size w w' := by
 have HB := Lib.hid (name_any s w hs)
 have H1 := Lib.hid (binary_any w s)
 have H2 := Lib.hid (unary_any w s)
 obtain ⟨q, hq⟩ : ∃ q, nameOk s = q := ⟨_, rfl⟩
 rw [hq] at HB
 obtain ⟨q1, hq1⟩ : ∃ q, binB s = q := ⟨_, rfl⟩
 rw [hq1] at H1
 obtain ⟨q2, hq2⟩ : ∃ q, unB s = q := ⟨_, rfl⟩
 rw [hq2] at H2
 obtain ⟨r, hr⟩ : ∃ r, nameE k s = r := ⟨_, rfl⟩
 rw [hr]
 have HR := Lib.hid (show (if 6 ≤ k ∧ k ≤ 13 then q else if k = 17 then q1 else if k = 18 then q2 else s.toList.isEmpty) = r by rw [← hr]; simp only [nameE, hq, hq1, hq2, emp])
 clear hr hq hq1 hq2 hs
 rcases kall k with h | rfl | rfl | rfl | rfl | rfl | rfl | rfl | rfl | rfl | rfl | rfl | rfl | rfl | rfl | rfl | rfl | rfl | rfl
 · have HR2 := Lib.hid (show r = s.toList.isEmpty by rw [← HR.out, if_neg (by omega), if_neg (by omega), if_neg (by omega)])
   have f1 := kne h 1 (by omega) (by omega)
   have f2 := kne h 2 (by omega) (by omega)
   have f3 := kne h 3 (by omega) (by omega)
   have f4 := kne h 4 (by omega) (by omega)
   have f5 := kne h 5 (by omega) (by omega)
   have f6 := kne h 6 (by omega) (by omega)
   have f7 := kne h 7 (by omega) (by omega)
   have f8 := kne h 8 (by omega) (by omega)
   have f9 := kne h 9 (by omega) (by omega)
   have f10 := kne h 10 (by omega) (by omega)
   have f11 := kne h 11 (by omega) (by omega)
   have f12 := kne h 12 (by omega) (by omega)
   have f13 := kne h 13 (by omega) (by omega)
   have f14 := kne h 14 (by omega) (by omega)
   have f15 := kne h 15 (by omega) (by omega)
   have f16 := kne h 16 (by omega) (by omega)
   have f17 := kne h 17 (by omega) (by omega)
   have f18 := kne h 18 (by omega) (by omega)
   clear HB H1 H2
   go_enter Tryz.func99, Tryz.ntmps99
   go_wp2_with fail
   go_ret
   exact ⟨ret_bool HR2.out.symm, Below.refl _ _⟩
 all_goals go_enter Tryz.func99, Tryz.ntmps99
 all_goals go_wp2_with (first | (go_at_call 58; refine HB.out.mono ?_; clear HB; rintro e w1 ⟨rfl, hb⟩) | (go_at_call 120; refine H1.out.mono ?_; rintro e w1 ⟨rfl, rfl⟩) | (go_at_call 121; refine H2.out.mono ?_; rintro e w1 ⟨rfl, rfl⟩))
 all_goals (go_ret; refine ⟨ret_bool ?_, ?_⟩)
 all_goals first | exact hb | exact Below.refl _ _ | (rw [← HR.out]; done) | (rw [← HR.out]; simp)
end
section
open Go.RowKit
theorem settable_any (w : World) (k : Int) : Calls Tryz.prog 122 #[.int .i64 k] w fun e w' => e = .returned (.bool (setB k)) ∧ w = w' := by
 obtain ⟨r, hr⟩ : ∃ r, setB k = r := ⟨_, rfl⟩
 rw [hr]
 have HR := Lib.hid hr; clear hr
 go_enter Tryz.func122, Tryz.ntmps122
 go_wp2_with fail
 all_goals (go_ret; refine ⟨ret_bool ?_, rfl⟩; rw [← HR.out]; unfold setB; simp only [beq_iff_eq, beq_eq_false_iff_ne] at *; rw [Bool.eq_iff_iff]; simp only [decide_eq_true_eq, Bool.false_eq_true, true_iff, false_iff]; omega)
theorem callable_any (w : World) (k : Int) : Calls Tryz.prog 123 #[.int .i64 k] w fun e w' => e = .returned (.bool (calB k)) ∧ w = w' := by
 obtain ⟨r, hr⟩ : ∃ r, calB k = r := ⟨_, rfl⟩
 rw [hr]
 have HR := Lib.hid hr; clear hr
 go_enter Tryz.func123, Tryz.ntmps123
 go_wp2_with fail
 all_goals (go_ret; refine ⟨ret_bool ?_, rfl⟩; rw [← HR.out]; unfold calB; simp only [beq_iff_eq, beq_eq_false_iff_ne] at *; rw [Bool.eq_iff_iff]; simp only [decide_eq_true_eq, Bool.false_eq_true, true_iff, false_iff]; omega)
theorem Rw.cell0 {w : World} {A : Option Addr} {n cap : Nat} {l : List Nd} {t : Tg} (h : Rw w t (.slice A n cap) l) (ht : t = .ex ∨ t = .st) (k : Nat) (hk : k < n) : ∃ b o x, A = some ⟨b, o, none⟩ ∧ l[k]? = some x ∧ w.cell? ⟨b, o + k * t.sz, none⟩ = some (.int .i64 x.kind) := by
 obtain ⟨A', cap', hv, _, htg, hc⟩ := h
 injection hv with h1 h2 h3
 obtain ⟨b, o, hA, hcell⟩ := hc (by omega)
 have hl : k < l.length := by omega
 refine ⟨b, o, l[k], h1.trans hA, List.getElem?_eq_getElem hl, ?_⟩
 have htx := htg _ (List.getElem_mem hl)
 refine hcell k _ (List.getElem?_eq_getElem hl) 0 _ ?_
 generalize l[k] = x at htx ⊢
 cases x <;> rcases ht with rfl | rfl <;> first | rfl | (simp [Nd.tag] at htx)
theorem hasSup_drop {l : List Nd} {k : Nat} {x : Nd} (h : l[k]? = some x) : hasSup (l.drop k) = (x.kind == 11 || hasSup (l.drop (k + 1))) := by
 rw [drop_at _ _ h]; rfl
theorem hasSuper_any (w : World) (v : Value) (l : List Nd) (hr : Rw w .st v l) : Calls Tryz.prog 107 #[v] w fun e w' => e = .returned (.bool (hasSup l)) ∧ w = w' := by
 have hm : l.length ≤ maxLen := by obtain ⟨_, _, _, hm, _⟩ := hr; exact hm.1
 obtain ⟨A, cap, rfl⟩ := hr.form
 obtain ⟨n, hn⟩ : ∃ n, l.length = n := ⟨_, rfl⟩
 rw [hn] at hm hr ⊢
 have HAT := Lib.hid (hr.cell0 (.inr rfl))
 obtain ⟨r, hres⟩ : ∃ r, hasSup l = r := ⟨_, rfl⟩
 rw [hres]
 have H0 := Lib.hid (show hasSup (l.drop 0) = r from hres)
 have HN := Lib.hid hn
 clear hr hn hres
 unfold maxLen at hm
 go_enter Tryz.func107, Tryz.ntmps107
 go_wp2_with fail
 go_loop [6] (fun v6 => ∃ (k : Nat), v6 = .int .i64 k ∧ k ≤ n ∧ hasSup (l.drop k) = r) (fun v6 => n - (intOf v6).toNat)
 case atStart => exact ⟨0, rfl, Nat.zero_le _, H0.out⟩
 case round =>
   obtain ⟨k, rfl, hk, hd⟩ := hrel
   clear H0
   have HD := Lib.hid hd; clear hd
   by_cases hlt : k < n
   · obtain ⟨b, o, x, rfl, hx, c0⟩ := HAT.out k hlt
     simp only [Tg.sz] at c0
     have HE := Lib.hid ((hasSup_drop hx).symm.trans HD.out)
     obtain ⟨kd, hkd⟩ : ∃ kd, x.kind = kd := ⟨_, rfl⟩
     rw [hkd] at HE c0
     clear HD hx hkd
     by_cases h11 : kd = 11
     · subst h11
       have HF := Lib.hid (show r = true by rw [← HE.out]; rfl)
       go_wp2_with fail
       go_ret
       exact ⟨by rw [HF.out]; rfl, rfl⟩
     · have hq : ((kd : Int) == 11) = false := by rw [beq_eq_false_iff_ne]; exact h11
       have HF := Lib.hid (show hasSup (l.drop (k + 1)) = r by rw [← HE.out, hq]; rfl)
       go_wp2_with fail
       go_round
       case rel => exact ⟨k + 1, by go_num, by omega, HF.out⟩
       case measure => simp [intOf]; omega
   · have HF := Lib.hid (show r = false by rw [← HD.out, List.drop_of_length_le (by rw [HN.out]; omega)]; rfl)
     go_wp2_with fail
     go_ret
     exact ⟨by rw [HF.out]; rfl, rfl⟩
theorem Rw.drop1 {w : World} {b o n cap c : Nat} {l : List Nd} (h : Rw w .st (.slice (some ⟨b, o, none⟩) (n + 1) cap) l) (a : Nat) (ha : a = o + 9 ∨ n = 0) (hcc : n ≤ c) : Rw w .st (.slice (some ⟨b, a, none⟩) n c) (l.drop 1) := by
 obtain ⟨A', cap', hv, hm, ht, hc⟩ := h
 injection hv with h1 h2 h3
 have hl : (l.drop 1).length = n := by rw [List.length_drop]; omega
 refine ⟨some ⟨b, a, none⟩, c, by rw [hl], by rw [hl]; omega, fun x hx => ht x (List.mem_of_mem_drop hx), fun hn => ⟨b, a, rfl, fun i x hx j u hu => ?_⟩⟩
 rw [hl] at hn
 obtain ⟨b', o', hA, hcell⟩ := hc (by omega)
 rw [← h1] at hA
 injection hA with hA
 injection hA with hb ho
 subst hb; subst ho
 have hx' : l[i + 1]? = some x := by rw [List.getElem?_drop] at hx; rw [Nat.add_comm]; exact hx
 have := hcell (i + 1) x hx' j u hu
 have e : a + i * Tg.st.sz + j = o + (i + 1) * Tg.st.sz + j := by
   rcases ha with ha | ha
   · subst ha; simp only [Tg.sz]; omega
   · omega
 rw [e]; exact this
theorem Rw.empty (w : World) (t : Tg) (A : Option Addr) (c : Nat) : Rw w t (.slice A 0 c) [] := ⟨A, c, rfl, ⟨by unfold maxLen; simp, by simp⟩, by simp, fun h => by simp at h⟩
def BehindSaid (w : World) (l : List Nd) (e : Ending) (w' : World) : Prop := ∃ v', e = .returned v' ∧ Rw w .st v' l ∧ w = w'
theorem Rw.cap {w : World} {t : Tg} {A : Option Addr} {n cap : Nat} {l : List Nd} (h : Rw w t (.slice A n cap) l) : n ≤ cap := by
 obtain ⟨A', cap', hv, hm, _⟩ := h
 injection hv with h1 h2 h3
 omega
theorem Rw.some {w : World} {t : Tg} {A : Option Addr} {n cap : Nat} {l : List Nd} (h : Rw w t (.slice A (n + 1) cap) l) : ∃ b o, A = some ⟨b, o, none⟩ := by
 obtain ⟨A', cap', hv, hm, ht, hc⟩ := h
 injection hv with h1 h2 h3
 obtain ⟨b, o, hA, _⟩ := hc (by omega)
 exact ⟨b, o, h1.trans hA⟩
theorem behindFirst_any (w : World) (v : Value) (l : List Nd) (hr : Rw w .st v l) : Calls Tryz.prog 108 #[v] w (BehindSaid w (l.drop 1)) := by
 have hm : l.length ≤ maxLen := by obtain ⟨_, _, _, hm, _⟩ := hr; exact hm.1
 obtain ⟨A, cap, rfl⟩ := hr.form
 unfold maxLen at hm
 rcases Nat.eq_zero_or_pos l.length with h0 | h0
 · have hl0 : l = [] := List.eq_nil_of_length_eq_zero h0
   subst hl0
   clear hr
   simp only [List.length_nil, List.drop_nil] at *
   go_enter Tryz.func108, Tryz.ntmps108
   go_wp2_with fail
   all_goals (go_ret; exact ⟨_, rfl, Rw.empty _ _ _ _, rfl⟩)
 · obtain ⟨m, hlm⟩ : ∃ m, l.length = m + 1 := ⟨l.length - 1, by omega⟩
   rw [hlm] at hr hm ⊢
   obtain ⟨b, o, rfl⟩ := hr.some
   have HR := Lib.hid hr
   have hmin : min (1 : Int) ((m : Int) + 1) = 1 := by omega
   have hcap := hr.cap
   clear hr h0 hlm
   go_enter Tryz.func108, Tryz.ntmps108
   go_wp2_with fail
   all_goals go_ret
   · exact ⟨_, rfl, by have := HR.out.drop1 (c := 0) o (.inr (by omega)) (by omega); simpa using this, rfl⟩
   · exact ⟨_, rfl, by have := HR.out.drop1 (c := cap - 1) (o + 9) (.inl rfl) (by omega); simpa using this, rfl⟩
end
section
open Go.RowKit
theorem sout (k : Int) (h1 : ¬ k = 1) (h2 : ¬ k = 2) (h3 : ¬ k = 3) (h4 : ¬ k = 4) (h5 : ¬ k = 5) (h6 : ¬ k = 6) (h7 : ¬ k = 7) (h8 : ¬ k = 8) (h9 : ¬ k = 9) (h10 : ¬ k = 10) (h11 : ¬ k = 11) : k < 1 ∨ 11 < k := by
 rcases Int.lt_or_le k 1 with h | h
 · exact .inl h
 · refine .inr ?_
   have step : ∀ j : Int, j ≤ k → ¬ k = j → j + 1 ≤ k := fun j a b => by omega
   have g1 := step 1 h h1
   have g2 := step 2 g1 h2
   have g3 := step 3 g2 h3
   have g4 := step 4 g3 h4
   have g5 := step 5 g4 h5
   have g6 := step 6 g5 h6
   have g7 := step 7 g6 h7
   have g8 := step 8 g7 h8
   have g9 := step 9 g8 h9
   have g10 := step 10 g9 h10
   have g11 := step 11 g10 h11
   clear h1 h2 h3 h4 h5 h6 h7 h8 h9 h10 h11
   omega
theorem sall (k : Int) : (k < 1 ∨ 11 < k) ∨ k = 1 ∨ k = 2 ∨ k = 3 ∨ k = 4 ∨ k = 5 ∨ k = 6 ∨ k = 7 ∨ k = 8 ∨ k = 9 ∨ k = 10 ∨ k = 11 :=
 if h1 : k = 1 then .inr (.inl h1) else
 if h2 : k = 2 then .inr (.inr (.inl h2)) else
 if h3 : k = 3 then .inr (.inr (.inr (.inl h3))) else
 if h4 : k = 4 then .inr (.inr (.inr (.inr (.inl h4)))) else
 if h5 : k = 5 then .inr (.inr (.inr (.inr (.inr (.inl h5))))) else
 if h6 : k = 6 then .inr (.inr (.inr (.inr (.inr (.inr (.inl h6)))))) else
 if h7 : k = 7 then .inr (.inr (.inr (.inr (.inr (.inr (.inr (.inl h7))))))) else
 if h8 : k = 8 then .inr (.inr (.inr (.inr (.inr (.inr (.inr (.inr (.inl h8)))))))) else
 if h9 : k = 9 then .inr (.inr (.inr (.inr (.inr (.inr (.inr (.inr (.inr (.inl h9))))))))) else
 if h10 : k = 10 then .inr (.inr (.inr (.inr (.inr (.inr (.inr (.inr (.inr (.inr (.inl h10)))))))))) else
 if h11 : k = 11 then .inr (.inr (.inr (.inr (.inr (.inr (.inr (.inr (.inr (.inr (.inr (h11))))))))))) else
 .inl (sout k h1 h2 h3 h4 h5 h6 h7 h8 h9 h10 h11)
theorem sne {k : Int} (h : k < 1 ∨ 11 < k) (i : Int) (h1 : 1 ≤ i) (h2 : i ≤ 11) : (k == i) = false := by rw [beq_eq_false_iff_ne]; omega
theorem valueType_any (w : World) (s : ByteArray) (hs : s.size ≤ maxLen) : Calls Tryz.prog 71 #[.string s] w fun e w' => e = .returned (.bool (valT s)) ∧ Below w.heap.size w w' := by
 have HB := Lib.hid (class_any s w hs)
 obtain ⟨q, hq⟩ : ∃ q, classOk s = q := ⟨_, rfl⟩
 rw [hq] at HB
 obtain ⟨q1, e1⟩ : ∃ q, (s.toList == [105, 110, 116]) = q := ⟨_, rfl⟩
 obtain ⟨q2, e2⟩ : ∃ q, (s.toList == [98, 111, 111, 108, 101, 97, 110]) = q := ⟨_, rfl⟩
 obtain ⟨q3, e3⟩ : ∃ q, (s.toList == [83, 116, 114, 105, 110, 103]) = q := ⟨_, rfl⟩
 simp only [valT, e1, e2, e3, hq]
 clear hq hs
 cases q1
 · cases q2
   · cases q3
     · go_enter Tryz.func71, Tryz.ntmps71
       go_wp2_with (go_at_call 59; refine HB.out.mono ?_; clear HB; rintro e w1 ⟨rfl, hb⟩)
       go_ret
       exact ⟨ret_bool (by simp), hb⟩
     · go_enter Tryz.func71, Tryz.ntmps71
       go_wp2_with fail
       go_ret
       exact ⟨ret_bool (by simp), Below.refl _ _⟩
   · go_enter Tryz.func71, Tryz.ntmps71
     go_wp2_with fail
     go_ret
     exact ⟨ret_bool (by simp), Below.refl _ _⟩
 · go_enter Tryz.func71, Tryz.ntmps71
   go_wp2_with fail
   go_ret
   exact ⟨ret_bool (by simp), Below.refl _ _⟩
theorem stmtNum_any (w : World) (b o : Nat) (k n : Int) (c0 : w.cell? ⟨b, o, none⟩ = some (.int .i64 k)) (c1 : w.cell? ⟨b, o + 1, none⟩ = some (.int .i32 n)) :
   Calls Tryz.prog 102 #[.pointer (some ⟨b, o, none⟩)] w fun e w' => e = .returned (.bool (numS k n)) ∧ w = w' := by
 go_enter Tryz.func102, Tryz.ntmps102
 go_wp2_with fail
 all_goals (go_ret; refine ⟨ret_bool ?_, rfl⟩; clear c0 c1; unfold numS; (repeat' split) <;> first | (exfalso; omega) | (rw [Bool.eq_iff_iff]; simp only [beq_iff_eq, decide_eq_true_eq, Bool.or_eq_true, Bool.and_eq_true, Bool.false_eq_true, true_iff, iff_true, false_iff, iff_false] <;> omega) | simp_all)
theorem stmtType_any (w : World) (b o : Nat) (k : Int) (s : ByteArray) (hs : s.size ≤ maxLen) (c0 : w.cell? ⟨b, o, none⟩ = some (.int .i64 k)) (c2 : w.cell? ⟨b, o + 2, none⟩ = some (.string s)) :
   Calls Tryz.prog 103 #[.pointer (some ⟨b, o, none⟩)] w fun e w' => e = .returned (.bool (typeS k s)) ∧ Below w.heap.size w w' := by
 have HB := Lib.hid (class_any s w hs)
 have HV := Lib.hid (valueType_any w s hs)
 obtain ⟨q, hq⟩ : ∃ q, classOk s = q := ⟨_, rfl⟩
 rw [hq] at HB
 obtain ⟨q1, hq1⟩ : ∃ q, valT s = q := ⟨_, rfl⟩
 rw [hq1] at HV
 obtain ⟨r, hr⟩ : ∃ r, typeS k s = r := ⟨_, rfl⟩
 rw [hr]
 have HR := Lib.hid (show (if k = 1 then q1 else if k = 10 then q else s.toList.isEmpty) = r by rw [← hr]; simp only [typeS, hq, hq1, emp])
 clear hr hq hq1 hs
 rcases sall k with h | rfl | rfl | rfl | rfl | rfl | rfl | rfl | rfl | rfl | rfl | rfl
 · have HR2 := Lib.hid (show r = s.toList.isEmpty by rw [← HR.out, if_neg (by omega), if_neg (by omega)])
   have f1 := sne h 1 (by omega) (by omega); have f2 := sne h 2 (by omega) (by omega); have f3 := sne h 3 (by omega) (by omega); have f4 := sne h 4 (by omega) (by omega); have f5 := sne h 5 (by omega) (by omega); have f6 := sne h 6 (by omega) (by omega); have f7 := sne h 7 (by omega) (by omega); have f8 := sne h 8 (by omega) (by omega); have f9 := sne h 9 (by omega) (by omega); have f10 := sne h 10 (by omega) (by omega); have f11 := sne h 11 (by omega) (by omega);
   clear HB HV
   go_enter Tryz.func103, Tryz.ntmps103
   go_wp2_with fail
   go_ret
   exact ⟨ret_bool HR2.out.symm, Below.refl _ _⟩
 all_goals go_enter Tryz.func103, Tryz.ntmps103
 all_goals go_wp2_with (first | (go_at_call 59; refine HB.out.mono ?_; clear HB; rintro e w1 ⟨rfl, hb⟩) | (go_at_call 71; refine HV.out.mono ?_; clear HV; rintro e w1 ⟨rfl, hb⟩))
 all_goals (go_ret; refine ⟨ret_bool ?_, ?_⟩)
 all_goals first | exact hb | exact Below.refl _ _ | (rw [← HR.out]; done) | (rw [← HR.out]; simp)
theorem stmtName_any (w : World) (b o : Nat) (k : Int) (s : ByteArray) (hs : s.size ≤ maxLen) (c0 : w.cell? ⟨b, o, none⟩ = some (.int .i64 k)) (c3 : w.cell? ⟨b, o + 3, none⟩ = some (.string s)) :
   Calls Tryz.prog 104 #[.pointer (some ⟨b, o, none⟩)] w fun e w' => e = .returned (.bool (nameS k s)) ∧ Below w.heap.size w w' := by
 have HB := Lib.hid (name_any s w hs)
 obtain ⟨q, hq⟩ : ∃ q, nameOk s = q := ⟨_, rfl⟩
 rw [hq] at HB
 obtain ⟨r, hr⟩ : ∃ r, nameS k s = r := ⟨_, rfl⟩
 rw [hr]
 have HR := Lib.hid (show (if k = 1 ∨ k = 10 then q else s.toList.isEmpty) = r by rw [← hr]; simp only [nameS, hq, emp])
 clear hr hq hs
 rcases sall k with h | rfl | rfl | rfl | rfl | rfl | rfl | rfl | rfl | rfl | rfl | rfl
 · have HR2 := Lib.hid (show r = s.toList.isEmpty by rw [← HR.out, if_neg (by omega)])
   have f1 := sne h 1 (by omega) (by omega); have f2 := sne h 2 (by omega) (by omega); have f3 := sne h 3 (by omega) (by omega); have f4 := sne h 4 (by omega) (by omega); have f5 := sne h 5 (by omega) (by omega); have f6 := sne h 6 (by omega) (by omega); have f7 := sne h 7 (by omega) (by omega); have f8 := sne h 8 (by omega) (by omega); have f9 := sne h 9 (by omega) (by omega); have f10 := sne h 10 (by omega) (by omega); have f11 := sne h 11 (by omega) (by omega);
   clear HB
   go_enter Tryz.func104, Tryz.ntmps104
   go_wp2_with fail
   go_ret
   exact ⟨ret_bool HR2.out.symm, Below.refl _ _⟩
 all_goals go_enter Tryz.func104, Tryz.ntmps104
 all_goals go_wp2_with (first | (go_at_call 58; refine HB.out.mono ?_; clear HB; rintro e w1 ⟨rfl, hb⟩))
 all_goals (go_ret; refine ⟨ret_bool ?_, ?_⟩)
 all_goals first | exact hb | exact Below.refl _ _ | (rw [← HR.out]; done) | (rw [← HR.out]; simp)
theorem headK_at {l : List Nd} {x : Nd} (h : l[0]? = some x) : headK l = x.kind := by
 cases l with
 | nil => simp at h
 | cons y l => simp at h; subst h; rfl
theorem stmtExprs_any (w : World) (b o : Nat) (k : Int) (v : Value) (l : List Nd) (hr : Rw w .ex v l) (c0 : w.cell? ⟨b, o, none⟩ = some (.int .i64 k)) (c4 : w.cell? ⟨b, o + 4, none⟩ = some v) :
   Calls Tryz.prog 105 #[.pointer (some ⟨b, o, none⟩)] w fun e w' => e = .returned (.bool (exprsS k l)) ∧ w = w' := by
 have hm : l.length ≤ maxLen := by obtain ⟨_, _, _, hm, _⟩ := hr; exact hm.1
 unfold maxLen at hm
 obtain ⟨A, cap, rfl⟩ := hr.form
 have HAT : Hid (0 < l.length → ∃ b' o', A = some ⟨b', o', none⟩ ∧ w.cell? ⟨b', o', none⟩ = some (.int .i64 (headK l))) := by
   show _ → _
   intro h0
   obtain ⟨b', o', x, hA, hx, hc⟩ := hr.cell0 (.inl rfl) 0 h0
   exact ⟨b', o', hA, by rw [headK_at hx]; simpa using hc⟩
 obtain ⟨r, hres⟩ : ∃ r, exprsS k l = r := ⟨_, rfl⟩
 rw [hres]
 obtain ⟨n, hn⟩ : ∃ n, l.length = n := ⟨_, rfl⟩
 obtain ⟨h, hh⟩ : ∃ h, headK l = h := ⟨_, rfl⟩
 have HR := Lib.hid (show (if k = 1 ∨ k = 4 ∨ k = 5 ∨ k = 7 ∨ k = 8 ∨ k = 9 then decide (n = 1) else if k = 2 then (decide (n = 2) && setB h) else if k = 3 then (decide (n = 1) && calB h) else if k = 6 then decide (n ≤ 1) else if k = 10 then decide (n = 0) else decide (k = 11)) = r by rw [← hres]; simp only [exprsS, hn, hh])
 rw [hn] at hm c4 HAT
 rw [hh] at HAT
 obtain ⟨qs, hqs⟩ : ∃ q, setB h = q := ⟨_, rfl⟩
 obtain ⟨qc, hqc⟩ : ∃ q, calB h = q := ⟨_, rfl⟩
 have HS : Hid (∀ w, Calls Tryz.prog 122 #[.int .i64 h] w fun e w' => e = .returned (.bool qs) ∧ w = w') := by
   show ∀ w, _
   intro w; have := settable_any w h; rw [hqs] at this; exact this
 have HC : Hid (∀ w, Calls Tryz.prog 123 #[.int .i64 h] w fun e w' => e = .returned (.bool qc) ∧ w = w') := by
   show ∀ w, _
   intro w; have := callable_any w h; rw [hqc] at this; exact this
 rw [hqs, hqc] at HR
 clear hr hn hh hres hqs hqc
 rcases sall k with h' | rfl | rfl | rfl | rfl | rfl | rfl | rfl | rfl | rfl | rfl | rfl
 · have HR2 := Lib.hid (show r = false by rw [← HR.out, if_neg (by omega), if_neg (by omega), if_neg (by omega), if_neg (by omega), if_neg (by omega), decide_eq_false (by omega)])
   have f1 := sne h' 1 (by omega) (by omega); have f2 := sne h' 2 (by omega) (by omega); have f3 := sne h' 3 (by omega) (by omega); have f4 := sne h' 4 (by omega) (by omega); have f5 := sne h' 5 (by omega) (by omega); have f6 := sne h' 6 (by omega) (by omega); have f7 := sne h' 7 (by omega) (by omega); have f8 := sne h' 8 (by omega) (by omega); have f9 := sne h' 9 (by omega) (by omega); have f10 := sne h' 10 (by omega) (by omega); have f11 := sne h' 11 (by omega) (by omega);
   go_enter Tryz.func105, Tryz.ntmps105
   go_wp2_with fail
   go_ret
   exact ⟨ret_bool HR2.out.symm, rfl⟩
 · go_enter Tryz.func105, Tryz.ntmps105
   go_wp2_with fail
   all_goals (go_ret; refine ⟨ret_bool ?_, rfl⟩; rw [← HR.out] <;> clear c0 c4 <;> first | rfl | (rw [Bool.eq_iff_iff]; simp <;> omega) | simp)
 · by_cases hnn : n = 2
   · subst hnn
     obtain ⟨b', o', rfl, ch⟩ := HAT.out (by omega)
     have HR2 := Lib.hid (show r = qs by rw [← HR.out]; simp)
     go_enter Tryz.func105, Tryz.ntmps105
     go_wp2_with (go_at_call 122; refine (HS.out _).mono ?_; rintro e w1 ⟨rfl, rfl⟩)
     go_ret
     exact ⟨ret_bool HR2.out.symm, rfl⟩
   · have HR2 := Lib.hid (show r = false by rw [← HR.out]; simp [hnn])
     have g1 : ((n : Int) == 2) = false := by rw [beq_eq_false_iff_ne]; omega
     clear hnn
     go_enter Tryz.func105, Tryz.ntmps105
     go_wp2_with fail
     go_ret
     exact ⟨ret_bool HR2.out.symm, rfl⟩
 · by_cases hnn : n = 1
   · subst hnn
     obtain ⟨b', o', rfl, ch⟩ := HAT.out (by omega)
     have HR2 := Lib.hid (show r = qc by rw [← HR.out]; simp)
     go_enter Tryz.func105, Tryz.ntmps105
     go_wp2_with (go_at_call 123; refine (HC.out _).mono ?_; rintro e w1 ⟨rfl, rfl⟩)
     go_ret
     exact ⟨ret_bool HR2.out.symm, rfl⟩
   · have HR2 := Lib.hid (show r = false by rw [← HR.out]; simp [hnn])
     have g1 : ((n : Int) == 1) = false := by rw [beq_eq_false_iff_ne]; omega
     clear hnn
     go_enter Tryz.func105, Tryz.ntmps105
     go_wp2_with fail
     go_ret
     exact ⟨ret_bool HR2.out.symm, rfl⟩
 · go_enter Tryz.func105, Tryz.ntmps105
   go_wp2_with fail
   all_goals (go_ret; refine ⟨ret_bool ?_, rfl⟩; rw [← HR.out] <;> clear c0 c4 <;> first | rfl | (rw [Bool.eq_iff_iff]; simp <;> omega) | simp)
 · go_enter Tryz.func105, Tryz.ntmps105
   go_wp2_with fail
   all_goals (go_ret; refine ⟨ret_bool ?_, rfl⟩; rw [← HR.out] <;> clear c0 c4 <;> first | rfl | (rw [Bool.eq_iff_iff]; simp <;> omega) | simp)
 · go_enter Tryz.func105, Tryz.ntmps105
   go_wp2_with fail
   all_goals (go_ret; refine ⟨ret_bool ?_, rfl⟩; rw [← HR.out] <;> clear c0 c4 <;> first | rfl | (rw [Bool.eq_iff_iff]; simp <;> omega) | simp)
 · go_enter Tryz.func105, Tryz.ntmps105
   go_wp2_with fail
   all_goals (go_ret; refine ⟨ret_bool ?_, rfl⟩; rw [← HR.out] <;> clear c0 c4 <;> first | rfl | (rw [Bool.eq_iff_iff]; simp <;> omega) | simp)
 · go_enter Tryz.func105, Tryz.ntmps105
   go_wp2_with fail
   all_goals (go_ret; refine ⟨ret_bool ?_, rfl⟩; rw [← HR.out] <;> clear c0 c4 <;> first | rfl | (rw [Bool.eq_iff_iff]; simp <;> omega) | simp)
 · go_enter Tryz.func105, Tryz.ntmps105
   go_wp2_with fail
   all_goals (go_ret; refine ⟨ret_bool ?_, rfl⟩; rw [← HR.out] <;> clear c0 c4 <;> first | rfl | (rw [Bool.eq_iff_iff]; simp <;> omega) | simp)
 · go_enter Tryz.func105, Tryz.ntmps105
   go_wp2_with fail
   all_goals (go_ret; refine ⟨ret_bool ?_, rfl⟩; rw [← HR.out] <;> clear c0 c4 <;> first | rfl | (rw [Bool.eq_iff_iff]; simp <;> omega) | simp)
 · go_enter Tryz.func105, Tryz.ntmps105
   go_wp2_with fail
   all_goals (go_ret; refine ⟨ret_bool ?_, rfl⟩; rw [← HR.out] <;> clear c0 c4 <;> first | rfl | (rw [Bool.eq_iff_iff]; simp <;> omega) | simp)
theorem stmtBlocks_any (w : World) (b o : Nat) (k : Int) (va vb vc : Value) (la lb lc : List Nd) (ha : Rw w .st va la) (hb : Rw w .st vb lb) (hc : Rw w .st vc lc) (c0 : w.cell? ⟨b, o, none⟩ = some (.int .i64 k)) (c5 : w.cell? ⟨b, o + 5, none⟩ = some va) (c6 : w.cell? ⟨b, o + 6, none⟩ = some vb) (c7 : w.cell? ⟨b, o + 7, none⟩ = some vc) :
   Calls Tryz.prog 106 #[.pointer (some ⟨b, o, none⟩)] w fun e w' => e = .returned (.bool (blocksS k la lb lc)) ∧ w = w' := by
 have HA := Lib.hid (hasSuper_any w va la ha)
 have HB := Lib.hid (hasSuper_any w vb lb hb)
 have HC := Lib.hid (hasSuper_any w vc lc hc)
 obtain ⟨Aa, capa, rfl⟩ := ha.form
 obtain ⟨Ab, capb, rfl⟩ := hb.form
 obtain ⟨Ac, capc, rfl⟩ := hc.form
 obtain ⟨r, hres⟩ : ∃ r, blocksS k la lb lc = r := ⟨_, rfl⟩
 rw [hres]
 obtain ⟨qa, hqa⟩ : ∃ q, hasSup la = q := ⟨_, rfl⟩
 obtain ⟨qb, hqb⟩ : ∃ q, hasSup lb = q := ⟨_, rfl⟩
 obtain ⟨qc, hqc⟩ : ∃ q, hasSup lc = q := ⟨_, rfl⟩
 rw [hqa] at HA
 rw [hqb] at HB
 rw [hqc] at HC
 obtain ⟨na, hna⟩ : ∃ n, la.length = n := ⟨_, rfl⟩
 obtain ⟨nb, hnb⟩ : ∃ n, lb.length = n := ⟨_, rfl⟩
 obtain ⟨nc, hnc⟩ : ∃ n, lc.length = n := ⟨_, rfl⟩
 have HR := Lib.hid (show (!(qa || (qb || qc)) && (if k = 10 then true else if k = 4 then decide (nc = 0) else if k = 5 then (decide (nb = 0) && decide (nc = 0)) else (decide (na = 0) && (decide (nb = 0) && decide (nc = 0))))) = r by rw [← hres]; simp only [blocksS, hqa, hqb, hqc, hna, hnb, hnc])
 rw [hna] at HA c5
 rw [hnb] at HB c6
 rw [hnc] at HC c7
 clear ha hb hc hqa hqb hqc hres hna hnb hnc
 cases qa
 rotate_left
 · have HR2 := Lib.hid (show r = false by rw [← HR.out]; simp)
   go_enter Tryz.func106, Tryz.ntmps106
   go_wp2_with (first | (go_at_call_of 107 (Value.slice Aa na capa); refine HA.out.mono ?_; clear HA; rintro e w1 ⟨rfl, rfl⟩) | (go_at_call_of 107 (Value.slice Ab nb capb); refine HB.out.mono ?_; clear HB; rintro e w1 ⟨rfl, rfl⟩) | (go_at_call_of 107 (Value.slice Ac nc capc); refine HC.out.mono ?_; clear HC; rintro e w1 ⟨rfl, rfl⟩))
   go_ret
   exact ⟨ret_bool HR2.out.symm, rfl⟩
 cases qb
 rotate_left
 · have HR2 := Lib.hid (show r = false by rw [← HR.out]; simp)
   go_enter Tryz.func106, Tryz.ntmps106
   go_wp2_with (first | (go_at_call_of 107 (Value.slice Aa na capa); refine HA.out.mono ?_; clear HA; rintro e w1 ⟨rfl, rfl⟩) | (go_at_call_of 107 (Value.slice Ab nb capb); refine HB.out.mono ?_; clear HB; rintro e w1 ⟨rfl, rfl⟩) | (go_at_call_of 107 (Value.slice Ac nc capc); refine HC.out.mono ?_; clear HC; rintro e w1 ⟨rfl, rfl⟩))
   go_ret
   exact ⟨ret_bool HR2.out.symm, rfl⟩
 cases qc
 rotate_left
 · have HR2 := Lib.hid (show r = false by rw [← HR.out]; simp)
   go_enter Tryz.func106, Tryz.ntmps106
   go_wp2_with (first | (go_at_call_of 107 (Value.slice Aa na capa); refine HA.out.mono ?_; clear HA; rintro e w1 ⟨rfl, rfl⟩) | (go_at_call_of 107 (Value.slice Ab nb capb); refine HB.out.mono ?_; clear HB; rintro e w1 ⟨rfl, rfl⟩) | (go_at_call_of 107 (Value.slice Ac nc capc); refine HC.out.mono ?_; clear HC; rintro e w1 ⟨rfl, rfl⟩))
   go_ret
   exact ⟨ret_bool HR2.out.symm, rfl⟩
 have ea : ((na : Int) == 0) = decide (na = 0) := by rw [Bool.eq_iff_iff]; simp only [beq_iff_eq, decide_eq_true_eq]; omega
 have eb : ((nb : Int) == 0) = decide (nb = 0) := by rw [Bool.eq_iff_iff]; simp only [beq_iff_eq, decide_eq_true_eq]; omega
 have ec : ((nc : Int) == 0) = decide (nc = 0) := by rw [Bool.eq_iff_iff]; simp only [beq_iff_eq, decide_eq_true_eq]; omega
 obtain ⟨za, hza⟩ : ∃ z, decide (na = 0) = z := ⟨_, rfl⟩
 obtain ⟨zb, hzb⟩ : ∃ z, decide (nb = 0) = z := ⟨_, rfl⟩
 obtain ⟨zc, hzc⟩ : ∃ z, decide (nc = 0) = z := ⟨_, rfl⟩
 rw [hza, hzb, hzc] at HR
 rw [hza] at ea
 rw [hzb] at eb
 rw [hzc] at ec
 clear hza hzb hzc
 have HR2 := Lib.hid (show (if k = 10 then true else if k = 4 then zc else if k = 5 then (zb && zc) else (za && (zb && zc))) = r by rw [← HR.out]; simp)
 clear HR
 rcases sall k with h | rfl | rfl | rfl | rfl | rfl | rfl | rfl | rfl | rfl | rfl | rfl
 · have HR3 := Lib.hid (show r = (za && (zb && zc)) by rw [← HR2.out, if_neg (by omega), if_neg (by omega), if_neg (by omega)])
   have f1 := sne h 1 (by omega) (by omega); have f2 := sne h 2 (by omega) (by omega); have f3 := sne h 3 (by omega) (by omega); have f4 := sne h 4 (by omega) (by omega); have f5 := sne h 5 (by omega) (by omega); have f6 := sne h 6 (by omega) (by omega); have f7 := sne h 7 (by omega) (by omega); have f8 := sne h 8 (by omega) (by omega); have f9 := sne h 9 (by omega) (by omega); have f10 := sne h 10 (by omega) (by omega); have f11 := sne h 11 (by omega) (by omega);
   cases za <;> cases zb
   all_goals go_enter Tryz.func106, Tryz.ntmps106
   all_goals go_wp2_with (first | (go_at_call_of 107 (Value.slice Aa na capa); refine HA.out.mono ?_; clear HA; rintro e w1 ⟨rfl, rfl⟩) | (go_at_call_of 107 (Value.slice Ab nb capb); refine HB.out.mono ?_; clear HB; rintro e w1 ⟨rfl, rfl⟩) | (go_at_call_of 107 (Value.slice Ac nc capc); refine HC.out.mono ?_; clear HC; rintro e w1 ⟨rfl, rfl⟩))
   all_goals (go_ret; refine ⟨ret_bool ?_, rfl⟩; rw [HR3.out] <;> simp)
 all_goals cases za <;> cases zb
 all_goals go_enter Tryz.func106, Tryz.ntmps106
 all_goals go_wp2_with (first | (go_at_call_of 107 (Value.slice Aa na capa); refine HA.out.mono ?_; clear HA; rintro e w1 ⟨rfl, rfl⟩) | (go_at_call_of 107 (Value.slice Ab nb capb); refine HB.out.mono ?_; clear HB; rintro e w1 ⟨rfl, rfl⟩) | (go_at_call_of 107 (Value.slice Ac nc capc); refine HC.out.mono ?_; clear HC; rintro e w1 ⟨rfl, rfl⟩))
 all_goals (go_ret; refine ⟨ret_bool ?_, rfl⟩; rw [← HR2.out] <;> simp)
end
section
open Go.RowKit
theorem name_ok (s : ByteArray) (hs : s.size ≤ maxLen) (w : World) (q : Bool) (hq : nameOk s = q) : Calls Tryz.prog 58 #[.string s] w fun e w' => e = .returned (.bool q) ∧ Below w.heap.size w w' := by subst hq; exact name_any s w hs
theorem class_ok (s : ByteArray) (hs : s.size ≤ maxLen) (w : World) (q : Bool) (hq : classOk s = q) : Calls Tryz.prog 59 #[.string s] w fun e w' => e = .returned (.bool q) ∧ Below w.heap.size w w' := by subst hq; exact class_any s w hs
theorem type_ok (s : ByteArray) (hs : s.size ≤ maxLen) (w : World) (q : Bool) (hq : valT s = q) : Calls Tryz.prog 71 #[.string s] w fun e w' => e = .returned (.bool q) ∧ Below w.heap.size w w' := by subst hq; exact valueType_any w s hs
theorem exprFits_any (w : World) (b o : Nat) (k n : Int) (tx nm ty : ByteArray) (v : Value) (l : List Nd) (own : ByteArray) (nth : Int) (hp : Pt.at_ w ⟨b, o, .ex k n tx nm ty v l own nth⟩) :
   Calls Tryz.prog 68 #[.pointer (some ⟨b, o, none⟩)] w fun e w' => e = .returned (.bool (fitsB (.ex k n tx nm ty v l own nth))) ∧ Below w.heap.size w w' := by
 have hk := hp.2; rw [Kd] at hk
 have HP := Lib.hid hp
 have HK := Lib.hid hk
 obtain ⟨q0, e0⟩ : ∃ q, numE k n = q := ⟨_, rfl⟩
 obtain ⟨q1, e1⟩ : ∃ q, textE k tx = q := ⟨_, rfl⟩
 obtain ⟨q2, e2⟩ : ∃ q, nameE k nm = q := ⟨_, rfl⟩
 obtain ⟨q3, e3⟩ : ∃ q, typeE k ty = q := ⟨_, rfl⟩
 obtain ⟨q4, e4⟩ : ∃ q, listE k l.length = q := ⟨_, rfl⟩
 have HF : fitsB (.ex k n tx nm ty v l own nth) = (q0 && (q1 && (q2 && (q3 && q4)))) := by simp only [fitsB, fitE, e0, e1, e2, e3, e4]
 rw [HF]; clear HF
 have H0 : Hid (∀ w1, Keep w w1 → Calls Tryz.prog 97 #[.pointer (some ⟨b, o, none⟩)] w1 fun e w' => e = .returned (.bool q0) ∧ w1 = w') := by
   show ∀ w1, _
   intro w1 K
   have hp := HP.out.keep K
   have hk := hp.2; rw [Kd] at hk
   have := exprNum_any w1 b o k n (by simpa using hp.cell 0 rfl) (hp.cell 1 rfl)
   rw [e0] at this; exact this
 have H1 : Hid (∀ w1, Keep w w1 → Calls Tryz.prog 98 #[.pointer (some ⟨b, o, none⟩)] w1 fun e w' => e = .returned (.bool q1) ∧ Below w1.heap.size w1 w') := by
   show ∀ w1, _
   intro w1 K
   have hp := HP.out.keep K
   have hk := hp.2; rw [Kd] at hk
   have := exprText_any w1 b o k tx hk.1.1 (by simpa using hp.cell 0 rfl) (hp.cell 2 rfl)
   rw [e1] at this; exact this
 have H2 : Hid (∀ w1, Keep w w1 → Calls Tryz.prog 99 #[.pointer (some ⟨b, o, none⟩)] w1 fun e w' => e = .returned (.bool q2) ∧ Below w1.heap.size w1 w') := by
   show ∀ w1, _
   intro w1 K
   have hp := HP.out.keep K
   have hk := hp.2; rw [Kd] at hk
   have := exprName_any w1 b o k nm hk.1.2.1 (by simpa using hp.cell 0 rfl) (hp.cell 3 rfl)
   rw [e2] at this; exact this
 have H3 : Hid (∀ w1, Keep w w1 → Calls Tryz.prog 100 #[.pointer (some ⟨b, o, none⟩)] w1 fun e w' => e = .returned (.bool q3) ∧ Below w1.heap.size w1 w') := by
   show ∀ w1, _
   intro w1 K
   have hp := HP.out.keep K
   have hk := hp.2; rw [Kd] at hk
   have := exprType_any w1 b o k ty hk.1.2.2 (by simpa using hp.cell 0 rfl) (hp.cell 4 rfl)
   rw [e3] at this; exact this
 have H4 : Hid (∀ w1, Keep w w1 → Calls Tryz.prog 101 #[.pointer (some ⟨b, o, none⟩)] w1 fun e w' => e = .returned (.bool q4) ∧ w1 = w') := by
   show ∀ w1, _
   intro w1 K
   have hp := HP.out.keep K
   have hk := hp.2; rw [Kd] at hk
   have := (by obtain ⟨A, cap, hv⟩ := hk.2.1.form; subst hv; exact exprList_any w1 b o k A l.length cap (by obtain ⟨_, _, _, hm, _⟩ := hk.2.1; exact hm.1) (by simpa using hp.cell 0 rfl) (hp.cell 5 rfl) : Calls Tryz.prog 101 #[.pointer (some ⟨b, o, none⟩)] w1 fun e w' => e = .returned (.bool (listE k l.length)) ∧ w1 = w')
   rw [e4] at this; exact this
 clear e0 e1 e2 e3 e4 hp hk HP HK
 have K0 : Keep w w := fun _ _ h => h
 have hb0 := Below.refl w.heap.size w
 cases q0
 · go_enter Tryz.func68, Tryz.ntmps68
   go_wp2_with fail
   refine (H0.out _ K0).mono ?_
   rintro e0 w1 ⟨rfl, rfl⟩
   go_wp2_with fail
   go_ret
   exact ⟨ret_bool (by simp), hb0⟩
 cases q1
 · go_enter Tryz.func68, Tryz.ntmps68
   go_wp2_with fail
   refine (H0.out _ K0).mono ?_
   rintro e0 w1 ⟨rfl, rfl⟩
   go_wp2_with fail
   refine (H1.out _ K0).mono ?_
   rintro e1 w2 ⟨rfl, hc1⟩
   have K2 := Keep.trans K0 (Keep.below hc1)
   have hb2 := hb0.trans (hc1.mono hb0.size)
   go_wp2_with fail
   go_ret
   exact ⟨ret_bool (by simp), hb2⟩
 cases q2
 · go_enter Tryz.func68, Tryz.ntmps68
   go_wp2_with fail
   refine (H0.out _ K0).mono ?_
   rintro e0 w1 ⟨rfl, rfl⟩
   go_wp2_with fail
   refine (H1.out _ K0).mono ?_
   rintro e1 w2 ⟨rfl, hc1⟩
   have K2 := Keep.trans K0 (Keep.below hc1)
   have hb2 := hb0.trans (hc1.mono hb0.size)
   go_wp2_with fail
   refine (H2.out _ K2).mono ?_
   rintro e2 w3 ⟨rfl, hc2⟩
   have K3 := Keep.trans K2 (Keep.below hc2)
   have hb3 := hb2.trans (hc2.mono hb2.size)
   go_wp2_with fail
   go_ret
   exact ⟨ret_bool (by simp), hb3⟩
 cases q3
 · go_enter Tryz.func68, Tryz.ntmps68
   go_wp2_with fail
   refine (H0.out _ K0).mono ?_
   rintro e0 w1 ⟨rfl, rfl⟩
   go_wp2_with fail
   refine (H1.out _ K0).mono ?_
   rintro e1 w2 ⟨rfl, hc1⟩
   have K2 := Keep.trans K0 (Keep.below hc1)
   have hb2 := hb0.trans (hc1.mono hb0.size)
   go_wp2_with fail
   refine (H2.out _ K2).mono ?_
   rintro e2 w3 ⟨rfl, hc2⟩
   have K3 := Keep.trans K2 (Keep.below hc2)
   have hb3 := hb2.trans (hc2.mono hb2.size)
   go_wp2_with fail
   refine (H3.out _ K3).mono ?_
   rintro e3 w4 ⟨rfl, hc3⟩
   have K4 := Keep.trans K3 (Keep.below hc3)
   have hb4 := hb3.trans (hc3.mono hb3.size)
   go_wp2_with fail
   go_ret
   exact ⟨ret_bool (by simp), hb4⟩
 cases q4
 · go_enter Tryz.func68, Tryz.ntmps68
   go_wp2_with fail
   refine (H0.out _ K0).mono ?_
   rintro e0 w1 ⟨rfl, rfl⟩
   go_wp2_with fail
   refine (H1.out _ K0).mono ?_
   rintro e1 w2 ⟨rfl, hc1⟩
   have K2 := Keep.trans K0 (Keep.below hc1)
   have hb2 := hb0.trans (hc1.mono hb0.size)
   go_wp2_with fail
   refine (H2.out _ K2).mono ?_
   rintro e2 w3 ⟨rfl, hc2⟩
   have K3 := Keep.trans K2 (Keep.below hc2)
   have hb3 := hb2.trans (hc2.mono hb2.size)
   go_wp2_with fail
   refine (H3.out _ K3).mono ?_
   rintro e3 w4 ⟨rfl, hc3⟩
   have K4 := Keep.trans K3 (Keep.below hc3)
   have hb4 := hb3.trans (hc3.mono hb3.size)
   go_wp2_with fail
   refine (H4.out _ K4).mono ?_
   rintro e4 w5 ⟨rfl, rfl⟩
   go_wp2_with fail
   go_ret
   exact ⟨ret_bool (by simp), hb4⟩
 go_enter Tryz.func68, Tryz.ntmps68
 go_wp2_with fail
 refine (H0.out _ K0).mono ?_
 rintro e0 w1 ⟨rfl, rfl⟩
 go_wp2_with fail
 refine (H1.out _ K0).mono ?_
 rintro e1 w2 ⟨rfl, hc1⟩
 have K2 := Keep.trans K0 (Keep.below hc1)
 have hb2 := hb0.trans (hc1.mono hb0.size)
 go_wp2_with fail
 refine (H2.out _ K2).mono ?_
 rintro e2 w3 ⟨rfl, hc2⟩
 have K3 := Keep.trans K2 (Keep.below hc2)
 have hb3 := hb2.trans (hc2.mono hb2.size)
 go_wp2_with fail
 refine (H3.out _ K3).mono ?_
 rintro e3 w4 ⟨rfl, hc3⟩
 have K4 := Keep.trans K3 (Keep.below hc3)
 have hb4 := hb3.trans (hc3.mono hb3.size)
 go_wp2_with fail
 refine (H4.out _ K4).mono ?_
 rintro e4 w5 ⟨rfl, rfl⟩
 go_wp2_with fail
 go_ret
 exact ⟨ret_bool (by simp), hb4⟩
theorem stmtFits_any (w : World) (b o : Nat) (k n : Int) (ty nm : ByteArray) (ve va vb vc : Value) (le a b' c : List Nd) (nth : Int) (hp : Pt.at_ w ⟨b, o, .st k n ty nm ve va vb vc le a b' c nth⟩) :
   Calls Tryz.prog 69 #[.pointer (some ⟨b, o, none⟩)] w fun e w' => e = .returned (.bool (fitsB (.st k n ty nm ve va vb vc le a b' c nth))) ∧ Below w.heap.size w w' := by
 have hk := hp.2; rw [Kd] at hk
 have HP := Lib.hid hp
 have HK := Lib.hid hk
 obtain ⟨q0, e0⟩ : ∃ q, numS k n = q := ⟨_, rfl⟩
 obtain ⟨q1, e1⟩ : ∃ q, typeS k ty = q := ⟨_, rfl⟩
 obtain ⟨q2, e2⟩ : ∃ q, nameS k nm = q := ⟨_, rfl⟩
 obtain ⟨q3, e3⟩ : ∃ q, exprsS k le = q := ⟨_, rfl⟩
 obtain ⟨q4, e4⟩ : ∃ q, blocksS k a b' c = q := ⟨_, rfl⟩
 have HF : fitsB (.st k n ty nm ve va vb vc le a b' c nth) = (q0 && (q1 && (q2 && (q3 && q4)))) := by simp only [fitsB, fitS, e0, e1, e2, e3, e4]
 rw [HF]; clear HF
 have H0 : Hid (∀ w1, Keep w w1 → Calls Tryz.prog 102 #[.pointer (some ⟨b, o, none⟩)] w1 fun e w' => e = .returned (.bool q0) ∧ w1 = w') := by
   show ∀ w1, _
   intro w1 K
   have hp := HP.out.keep K
   have hk := hp.2; rw [Kd] at hk
   have := stmtNum_any w1 b o k n (by simpa using hp.cell 0 rfl) (hp.cell 1 rfl)
   rw [e0] at this; exact this
 have H1 : Hid (∀ w1, Keep w w1 → Calls Tryz.prog 103 #[.pointer (some ⟨b, o, none⟩)] w1 fun e w' => e = .returned (.bool q1) ∧ Below w1.heap.size w1 w') := by
   show ∀ w1, _
   intro w1 K
   have hp := HP.out.keep K
   have hk := hp.2; rw [Kd] at hk
   have := stmtType_any w1 b o k ty hk.1.1 (by simpa using hp.cell 0 rfl) (hp.cell 2 rfl)
   rw [e1] at this; exact this
 have H2 : Hid (∀ w1, Keep w w1 → Calls Tryz.prog 104 #[.pointer (some ⟨b, o, none⟩)] w1 fun e w' => e = .returned (.bool q2) ∧ Below w1.heap.size w1 w') := by
   show ∀ w1, _
   intro w1 K
   have hp := HP.out.keep K
   have hk := hp.2; rw [Kd] at hk
   have := stmtName_any w1 b o k nm hk.1.2 (by simpa using hp.cell 0 rfl) (hp.cell 3 rfl)
   rw [e2] at this; exact this
 have H3 : Hid (∀ w1, Keep w w1 → Calls Tryz.prog 105 #[.pointer (some ⟨b, o, none⟩)] w1 fun e w' => e = .returned (.bool q3) ∧ w1 = w') := by
   show ∀ w1, _
   intro w1 K
   have hp := HP.out.keep K
   have hk := hp.2; rw [Kd] at hk
   have := stmtExprs_any w1 b o k ve le hk.2.1.1 (by simpa using hp.cell 0 rfl) (hp.cell 4 rfl)
   rw [e3] at this; exact this
 have H4 : Hid (∀ w1, Keep w w1 → Calls Tryz.prog 106 #[.pointer (some ⟨b, o, none⟩)] w1 fun e w' => e = .returned (.bool q4) ∧ w1 = w') := by
   show ∀ w1, _
   intro w1 K
   have hp := HP.out.keep K
   have hk := hp.2; rw [Kd] at hk
   have := stmtBlocks_any w1 b o k va vb vc a b' c hk.2.2.1.1 hk.2.2.2.1.1 hk.2.2.2.2.1 (by simpa using hp.cell 0 rfl) (hp.cell 5 rfl) (hp.cell 6 rfl) (hp.cell 7 rfl)
   rw [e4] at this; exact this
 clear e0 e1 e2 e3 e4 hp hk HP HK
 have K0 : Keep w w := fun _ _ h => h
 have hb0 := Below.refl w.heap.size w
 cases q0
 · go_enter Tryz.func69, Tryz.ntmps69
   go_wp2_with fail
   refine (H0.out _ K0).mono ?_
   rintro e0 w1 ⟨rfl, rfl⟩
   go_wp2_with fail
   go_ret
   exact ⟨ret_bool (by simp), hb0⟩
 cases q1
 · go_enter Tryz.func69, Tryz.ntmps69
   go_wp2_with fail
   refine (H0.out _ K0).mono ?_
   rintro e0 w1 ⟨rfl, rfl⟩
   go_wp2_with fail
   refine (H1.out _ K0).mono ?_
   rintro e1 w2 ⟨rfl, hc1⟩
   have K2 := Keep.trans K0 (Keep.below hc1)
   have hb2 := hb0.trans (hc1.mono hb0.size)
   go_wp2_with fail
   go_ret
   exact ⟨ret_bool (by simp), hb2⟩
 cases q2
 · go_enter Tryz.func69, Tryz.ntmps69
   go_wp2_with fail
   refine (H0.out _ K0).mono ?_
   rintro e0 w1 ⟨rfl, rfl⟩
   go_wp2_with fail
   refine (H1.out _ K0).mono ?_
   rintro e1 w2 ⟨rfl, hc1⟩
   have K2 := Keep.trans K0 (Keep.below hc1)
   have hb2 := hb0.trans (hc1.mono hb0.size)
   go_wp2_with fail
   refine (H2.out _ K2).mono ?_
   rintro e2 w3 ⟨rfl, hc2⟩
   have K3 := Keep.trans K2 (Keep.below hc2)
   have hb3 := hb2.trans (hc2.mono hb2.size)
   go_wp2_with fail
   go_ret
   exact ⟨ret_bool (by simp), hb3⟩
 cases q3
 · go_enter Tryz.func69, Tryz.ntmps69
   go_wp2_with fail
   refine (H0.out _ K0).mono ?_
   rintro e0 w1 ⟨rfl, rfl⟩
   go_wp2_with fail
   refine (H1.out _ K0).mono ?_
   rintro e1 w2 ⟨rfl, hc1⟩
   have K2 := Keep.trans K0 (Keep.below hc1)
   have hb2 := hb0.trans (hc1.mono hb0.size)
   go_wp2_with fail
   refine (H2.out _ K2).mono ?_
   rintro e2 w3 ⟨rfl, hc2⟩
   have K3 := Keep.trans K2 (Keep.below hc2)
   have hb3 := hb2.trans (hc2.mono hb2.size)
   go_wp2_with fail
   refine (H3.out _ K3).mono ?_
   rintro e3 w4 ⟨rfl, rfl⟩
   go_wp2_with fail
   go_ret
   exact ⟨ret_bool (by simp), hb3⟩
 cases q4
 · go_enter Tryz.func69, Tryz.ntmps69
   go_wp2_with fail
   refine (H0.out _ K0).mono ?_
   rintro e0 w1 ⟨rfl, rfl⟩
   go_wp2_with fail
   refine (H1.out _ K0).mono ?_
   rintro e1 w2 ⟨rfl, hc1⟩
   have K2 := Keep.trans K0 (Keep.below hc1)
   have hb2 := hb0.trans (hc1.mono hb0.size)
   go_wp2_with fail
   refine (H2.out _ K2).mono ?_
   rintro e2 w3 ⟨rfl, hc2⟩
   have K3 := Keep.trans K2 (Keep.below hc2)
   have hb3 := hb2.trans (hc2.mono hb2.size)
   go_wp2_with fail
   refine (H3.out _ K3).mono ?_
   rintro e3 w4 ⟨rfl, rfl⟩
   go_wp2_with fail
   refine (H4.out _ K3).mono ?_
   rintro e4 w5 ⟨rfl, rfl⟩
   go_wp2_with fail
   go_ret
   exact ⟨ret_bool (by simp), hb3⟩
 go_enter Tryz.func69, Tryz.ntmps69
 go_wp2_with fail
 refine (H0.out _ K0).mono ?_
 rintro e0 w1 ⟨rfl, rfl⟩
 go_wp2_with fail
 refine (H1.out _ K0).mono ?_
 rintro e1 w2 ⟨rfl, hc1⟩
 have K2 := Keep.trans K0 (Keep.below hc1)
 have hb2 := hb0.trans (hc1.mono hb0.size)
 go_wp2_with fail
 refine (H2.out _ K2).mono ?_
 rintro e2 w3 ⟨rfl, hc2⟩
 have K3 := Keep.trans K2 (Keep.below hc2)
 have hb3 := hb2.trans (hc2.mono hb2.size)
 go_wp2_with fail
 refine (H3.out _ K3).mono ?_
 rintro e3 w4 ⟨rfl, rfl⟩
 go_wp2_with fail
 refine (H4.out _ K3).mono ?_
 rintro e4 w5 ⟨rfl, rfl⟩
 go_wp2_with fail
 go_ret
 exact ⟨ret_bool (by simp), hb3⟩
theorem classFits_any (w : World) (b o : Nat) (nm sp : ByteArray) (vf vm : Value) (f m : List Nd) (hp : Pt.at_ w ⟨b, o, .cl nm sp vf vm f m⟩) :
   Calls Tryz.prog 72 #[.pointer (some ⟨b, o, none⟩)] w fun e w' => e = .returned (.bool (fitsB (.cl nm sp vf vm f m))) ∧ Below w.heap.size w w' := by
 have hk := hp.2; rw [Kd] at hk
 obtain ⟨Af, capf, rfl⟩ := hk.2.1.1.form
 obtain ⟨Am, capm, rfl⟩ := hk.2.2.1.form
 have c0 : w.cell? ⟨b, o, none⟩ = some (.string nm) := by simpa using hp.cell 0 rfl
 have c1 : w.cell? ⟨b, o + 1, none⟩ = some (.string sp) := hp.cell 1 rfl
 have c2 : w.cell? ⟨b, o + 2, none⟩ = some (.slice Af f.length capf) := hp.cell 2 rfl
 have c3 : w.cell? ⟨b, o + 3, none⟩ = some (.slice Am m.length capm) := hp.cell 3 rfl
 have HP := Lib.hid hp
 obtain ⟨q0, e0⟩ : ∃ q, classOk nm = q := ⟨_, rfl⟩
 obtain ⟨q1, e1⟩ : ∃ q, sp.toList.isEmpty = q := ⟨_, rfl⟩
 obtain ⟨q2, e2⟩ : ∃ q, classOk sp = q := ⟨_, rfl⟩
 obtain ⟨nf, hnf⟩ : ∃ n, f.length = n := ⟨_, rfl⟩
 obtain ⟨nm', hnm⟩ : ∃ n, m.length = n := ⟨_, rfl⟩
 obtain ⟨q3, e3⟩ : ∃ q, decide (nf ≤ 30) = q := ⟨_, rfl⟩
 obtain ⟨q4, e4⟩ : ∃ q, decide (nm' ≤ 30) = q := ⟨_, rfl⟩
 simp only [fitsB, e0, emp, e1, e2, hnf, hnm, e3, e4]
 rw [hnf] at c2
 rw [hnm] at c3
 have g3 : decide ((nf : Int) ≤ 30) = q3 := by rw [← e3]; simp only [decide_eq_decide]; omega
 have g4 : decide ((nm' : Int) ≤ 30) = q4 := by rw [← e4]; simp only [decide_eq_decide]; omega
 have H0 := Lib.hid (class_ok nm hk.1.1 w q0 e0)
 have H1 : Hid (∀ w1, Calls Tryz.prog 59 #[.string sp] w1 fun e w' => e = .returned (.bool q2) ∧ Below w1.heap.size w1 w') := by
   show ∀ w1, _
   intro w1; exact class_ok sp hk.1.2 w1 q2 e2
 have ec1 : w.heap.size ≤ w.heap.size := Nat.le_refl _
 clear hk hp e0 e2 e3 e4 hnf hnm ec1
 cases q0
 · go_enter Tryz.func72, Tryz.ntmps72
   go_wp2_with fail
   refine H0.out.mono ?_
   rintro e w1 ⟨rfl, hb1⟩
   have hp1 := HP.out.keep (Keep.below hb1)
   have d1 : w1.cell? ⟨b, o + 1, none⟩ = some (.string sp) := hp1.cell 1 rfl
   have d2 := (Keep.below hb1) _ _ c2
   have d3 := (Keep.below hb1) _ _ c3
   clear hp1
   go_wp2_with fail
   go_ret
   exact ⟨ret_bool (by simp), hb1⟩
 have FIN : True := trivial
 cases q1
 rotate_left
 · cases q3
   · go_enter Tryz.func72, Tryz.ntmps72
     go_wp2_with fail
     refine H0.out.mono ?_
     rintro e w1 ⟨rfl, hb1⟩
     have hp1 := HP.out.keep (Keep.below hb1)
     have d1 : w1.cell? ⟨b, o + 1, none⟩ = some (.string sp) := hp1.cell 1 rfl
     have d2 := (Keep.below hb1) _ _ c2
     have d3 := (Keep.below hb1) _ _ c3
     clear hp1
     go_wp2_with fail
     go_ret
     exact ⟨ret_bool (by simp), hb1⟩
   cases q4
   · go_enter Tryz.func72, Tryz.ntmps72
     go_wp2_with fail
     refine H0.out.mono ?_
     rintro e w1 ⟨rfl, hb1⟩
     have hp1 := HP.out.keep (Keep.below hb1)
     have d1 : w1.cell? ⟨b, o + 1, none⟩ = some (.string sp) := hp1.cell 1 rfl
     have d2 := (Keep.below hb1) _ _ c2
     have d3 := (Keep.below hb1) _ _ c3
     clear hp1
     go_wp2_with fail
     go_ret
     exact ⟨ret_bool (by simp), hb1⟩
   go_enter Tryz.func72, Tryz.ntmps72
   go_wp2_with fail
   refine H0.out.mono ?_
   rintro e w1 ⟨rfl, hb1⟩
   have hp1 := HP.out.keep (Keep.below hb1)
   have d1 : w1.cell? ⟨b, o + 1, none⟩ = some (.string sp) := hp1.cell 1 rfl
   have d2 := (Keep.below hb1) _ _ c2
   have d3 := (Keep.below hb1) _ _ c3
   clear hp1
   go_wp2_with fail
   go_ret
   exact ⟨ret_bool (by simp), hb1⟩
 cases q2
 · go_enter Tryz.func72, Tryz.ntmps72
   go_wp2_with fail
   refine H0.out.mono ?_
   rintro e w1 ⟨rfl, hb1⟩
   have hp1 := HP.out.keep (Keep.below hb1)
   have d1 : w1.cell? ⟨b, o + 1, none⟩ = some (.string sp) := hp1.cell 1 rfl
   have d2 := (Keep.below hb1) _ _ c2
   have d3 := (Keep.below hb1) _ _ c3
   clear hp1
   go_wp2_with fail
   refine (H1.out _).mono ?_
   rintro e w2 ⟨rfl, hb2⟩
   have hb3 := hb1.trans (hb2.mono hb1.size)
   have d2 := (Keep.below hb2) _ _ d2
   have d3 := (Keep.below hb2) _ _ d3
   go_wp2_with fail
   go_ret
   exact ⟨ret_bool (by simp), hb3⟩
 cases q3
 · go_enter Tryz.func72, Tryz.ntmps72
   go_wp2_with fail
   refine H0.out.mono ?_
   rintro e w1 ⟨rfl, hb1⟩
   have hp1 := HP.out.keep (Keep.below hb1)
   have d1 : w1.cell? ⟨b, o + 1, none⟩ = some (.string sp) := hp1.cell 1 rfl
   have d2 := (Keep.below hb1) _ _ c2
   have d3 := (Keep.below hb1) _ _ c3
   clear hp1
   go_wp2_with fail
   refine (H1.out _).mono ?_
   rintro e w2 ⟨rfl, hb2⟩
   have hb3 := hb1.trans (hb2.mono hb1.size)
   have d2 := (Keep.below hb2) _ _ d2
   have d3 := (Keep.below hb2) _ _ d3
   go_wp2_with fail
   go_ret
   exact ⟨ret_bool (by simp), hb3⟩
 cases q4
 · go_enter Tryz.func72, Tryz.ntmps72
   go_wp2_with fail
   refine H0.out.mono ?_
   rintro e w1 ⟨rfl, hb1⟩
   have hp1 := HP.out.keep (Keep.below hb1)
   have d1 : w1.cell? ⟨b, o + 1, none⟩ = some (.string sp) := hp1.cell 1 rfl
   have d2 := (Keep.below hb1) _ _ c2
   have d3 := (Keep.below hb1) _ _ c3
   clear hp1
   go_wp2_with fail
   refine (H1.out _).mono ?_
   rintro e w2 ⟨rfl, hb2⟩
   have hb3 := hb1.trans (hb2.mono hb1.size)
   have d2 := (Keep.below hb2) _ _ d2
   have d3 := (Keep.below hb2) _ _ d3
   go_wp2_with fail
   go_ret
   exact ⟨ret_bool (by simp), hb3⟩
 go_enter Tryz.func72, Tryz.ntmps72
 go_wp2_with fail
 refine H0.out.mono ?_
 rintro e w1 ⟨rfl, hb1⟩
 have hp1 := HP.out.keep (Keep.below hb1)
 have d1 : w1.cell? ⟨b, o + 1, none⟩ = some (.string sp) := hp1.cell 1 rfl
 have d2 := (Keep.below hb1) _ _ c2
 have d3 := (Keep.below hb1) _ _ c3
 clear hp1
 go_wp2_with fail
 refine (H1.out _).mono ?_
 rintro e w2 ⟨rfl, hb2⟩
 have hb3 := hb1.trans (hb2.mono hb1.size)
 have d2 := (Keep.below hb2) _ _ d2
 have d3 := (Keep.below hb2) _ _ d3
 go_wp2_with fail
 go_ret
 exact ⟨ret_bool (by simp), hb3⟩
end
section
open Go.RowKit
theorem fitP_drop {ps : List Prm} {k : Nat} {x : Prm} (h : ps[k]? = some x) : fitP (ps.drop k) = ((valT x.1 && nameOk x.2) && fitP (ps.drop (k + 1))) := by
 rw [drop_at _ _ h]; rfl
theorem Pw.sizes {w : World} {v : Value} {ps : List Prm} (h : Pw w v ps) {k : Nat} {x : Prm} (hx : ps[k]? = some x) : x.1.size ≤ maxLen ∧ x.2.size ≤ maxLen := by
 obtain ⟨_, _, _, _, hs, _⟩ := h
 exact hs x (List.mem_of_getElem? hx)
theorem methodFits_any (w : World) (b o : Nat) (s c : Bool) (ty nm : ByteArray) (vp : Value) (ps : List Prm) (v : Value) (l : List Nd) (hp : Pt.at_ w ⟨b, o, .mt s c ty nm vp ps v l⟩) :
   Calls Tryz.prog 70 #[.pointer (some ⟨b, o, none⟩)] w fun e w' => e = .returned (.bool (fitsB (.mt s c ty nm vp ps v l))) ∧ Below w.heap.size w w' := by
 have hk := hp.2; rw [Kd] at hk
 obtain ⟨A, cap, rfl, hm⟩ := hk.2.1.form
 unfold maxLen at hm
 have c4 : w.cell? ⟨b, o + 4, none⟩ = some (.slice A ps.length cap) := hp.cell 4 rfl
 obtain ⟨n, hn⟩ : ∃ n, ps.length = n := ⟨_, rfl⟩
 by_cases h6 : n ≤ 6
 · have HAT : Hid (∀ k, k < n → ∃ b o x, A = some ⟨b, o, none⟩ ∧ ps[k]? = some x ∧ w.cell? ⟨b, o + k * 2, none⟩ = some (.string x.1) ∧ w.cell? ⟨b, o + k * 2 + 1, none⟩ = some (.string x.2)) := by
     have := hk.2.1.at.2; rw [hn] at this; exact this
   have HPW := Lib.hid hk.2.1
   have HP := Lib.hid hp
   have HKK := Lib.hid hk
   rw [hn] at c4 hm
   obtain ⟨r, hr⟩ : ∃ r, fitP ps = r := ⟨_, rfl⟩
   obtain ⟨rest, hrest⟩ : ∃ q, (if c then (!s && (emp ty && (emp nm && !hasSup (l.drop 1)))) else ((ty.toList == [118, 111, 105, 100] || valT ty) && (nameOk nm && !hasSup l))) = q := ⟨_, rfl⟩
   have HF : fitsB (.mt s c ty nm (.slice A n cap) ps v l) = (r && rest) := by
     simp only [fitsB, fitM]
     rw [hrest, hr, hn, decide_eq_true h6]
     simp
   rw [hn, HF]
   have H0 := Lib.hid (show fitP (ps.drop 0) = r from hr)
   have HRE := Lib.hid hrest
   have HN := Lib.hid hn
   have h6' : (n : Int) ≤ 6 := by omega
   clear hp hk hr hrest HF hn
   go_enter Tryz.func70, Tryz.ntmps70
   go_wp2_with fail
   go_loopw [16] (fun v16 wr => ∃ (k : Nat), v16 = .int .i64 k ∧ k ≤ n ∧ Below w.heap.size w wr ∧ fitP (ps.drop k) = r) (fun v16 wr => n - (intOf v16).toNat)
   case atStart => exact ⟨0, rfl, Nat.zero_le _, Below.refl _ _, H0.out⟩
   case round =>
     obtain ⟨k, rfl, hkn, hbw, hd⟩ := hrel
     have HD := Lib.hid hd; clear hd H0
     have hsz := hbw.size
     by_cases hlt : k < n
     · obtain ⟨b', o', x, rfl, hx, d0, d1⟩ := HAT.out k hlt
       have hxs := HPW.out.sizes hx
       have d0 := (Keep.below hbw) _ _ d0
       have d1 := (Keep.below hbw) _ _ d1
       obtain ⟨q1, e1⟩ : ∃ q, valT x.1 = q := ⟨_, rfl⟩
       obtain ⟨q2, e2⟩ : ∃ q, nameOk x.2 = q := ⟨_, rfl⟩
       have HV : Hid (∀ w1, Calls Tryz.prog 71 #[.string x.1] w1 fun e w' => e = .returned (.bool q1) ∧ Below w1.heap.size w1 w') := by
         show ∀ w1, _
         intro w1; exact type_ok x.1 hxs.1 w1 q1 e1
       have HNM : Hid (∀ w1, Calls Tryz.prog 58 #[.string x.2] w1 fun e w' => e = .returned (.bool q2) ∧ Below w1.heap.size w1 w') := by
         show ∀ w1, _
         intro w1; exact name_ok x.2 hxs.2 w1 q2 e2
       have HE := Lib.hid (show ((q1 && q2) && fitP (ps.drop (k + 1))) = r by rw [← HD.out, fitP_drop hx, e1, e2])
       clear HD hx hxs e1 e2
       have hbx := Bx.new wr #[.string x.1, .string x.2] 108
       have hba : Below w.heap.size w (wr.alloc (.cells #[.string x.1, .string x.2] 108)) := hbw.alloc hsz _
       cases q1
       · have HR := Lib.hid (show r = false by rw [← HE.out]; simp)
         go_wp2_with fail
         refine (HV.out _).mono ?_
         rintro e w1 ⟨rfl, hb1⟩
         have hb2 := hba.trans (hb1.mono hba.size)
         clear hbx
         go_wp2_with fail
         go_ret
         exact ⟨ret_bool (by rw [HR.out]; simp), hb2⟩
       · go_wp2_with fail
         refine (HV.out _).mono ?_
         rintro e w1 ⟨rfl, hb1⟩
         have hb2 := hba.trans (hb1.mono hba.size)
         have c1 : w1.cell? ⟨wr.heap.size, 1, none⟩ = some (.string x.2) := by rw [(hbx.next hb1).cell 1]; rfl
         clear hbx hb1 hba
         go_wp2_with fail
         refine (HNM.out _).mono ?_
         rintro e w2 ⟨rfl, hb3⟩
         have hb4 := hb2.trans (hb3.mono hb2.size)
         clear hb3 hb2
         cases q2
         · have HR := Lib.hid (show r = false by rw [← HE.out]; simp)
           go_wp2_with fail
           go_ret
           exact ⟨ret_bool (by rw [HR.out]; simp), hb4⟩
         · have HR := Lib.hid (show fitP (ps.drop (k + 1)) = r by rw [← HE.out]; simp)
           go_wp2_with fail
           go_roundw
           case rel => exact ⟨k + 1, by go_num, by omega, hb4, HR.out⟩
           case measure => simp [intOf]; omega
     · have HT := Lib.hid (show r = true by rw [← HD.out, List.drop_of_length_le (by rw [HN.out]; omega)]; rfl)
       clear HD
       have K := Keep.below hbw
       have hp := HP.out.keep K
       have hkk := HKK.out
       have c0 : wr.cell? ⟨b, o, none⟩ = some (.bool s) := by simpa using hp.cell 0 rfl
       have c1 : wr.cell? ⟨b, o + 1, none⟩ = some (.bool c) := hp.cell 1 rfl
       have c2 : wr.cell? ⟨b, o + 2, none⟩ = some (.string ty) := hp.cell 2 rfl
       have c3 : wr.cell? ⟨b, o + 3, none⟩ = some (.string nm) := hp.cell 3 rfl
       have c5 : wr.cell? ⟨b, o + 5, none⟩ = some v := hp.cell 5 rfl
       have HRW := Lib.hid (hkk.2.2.1.keep K)
       have HSZ := Lib.hid hkk.1
       clear hp hkk K
       cases c
       · obtain ⟨t1, g1⟩ : ∃ q, (ty.toList == [118, 111, 105, 100]) = q := ⟨_, rfl⟩
         obtain ⟨t2, g2⟩ : ∃ q, valT ty = q := ⟨_, rfl⟩
         obtain ⟨t3, g3⟩ : ∃ q, nameOk nm = q := ⟨_, rfl⟩
         obtain ⟨t4, g4⟩ : ∃ q, hasSup l = q := ⟨_, rfl⟩
         have HRR := Lib.hid (show ((t1 || t2) && (t3 && !t4)) = rest by rw [← HRE.out, g1, g2, g3, g4]; simp)
         clear HRE
         have HV := Lib.hid (type_ok ty HSZ.out.1 wr t2 g2)
         have HNM : Hid (∀ w1, Calls Tryz.prog 58 #[.string nm] w1 fun e w' => e = .returned (.bool t3) ∧ Below w1.heap.size w1 w') := by
           show ∀ w1, _
           intro w1; exact name_ok nm HSZ.out.2 w1 t3 g3
         have HSU : Hid (∀ w1, Keep wr w1 → Calls Tryz.prog 107 #[v] w1 fun e w' => e = .returned (.bool t4) ∧ w1 = w') := by
           show ∀ w1, _
           intro w1 K; have := hasSuper_any w1 v l (HRW.out.keep K); rw [g4] at this; exact this
         have HP2 := Lib.hid (HP.out.keep (Keep.below hbw))
         clear g2 g3 g4
         cases t1
         · cases t2
           · have HS := Lib.hid (show rest = false by rw [← HRR.out]; simp)
             go_wp2_with (go_at_call 71; refine HV.out.mono ?_; clear HV; rintro e w1 ⟨rfl, hb1⟩)
             go_ret
             exact ⟨ret_bool (by rw [HT.out, HS.out]; rfl), hbw.trans (hb1.mono hsz)⟩
           · go_wp2_with fail
             refine HV.out.mono ?_
             clear HV
             rintro e w1 ⟨rfl, hb1⟩
             have K1 := Keep.below hb1
             have d3 := K1 _ _ c3
             have d5 := K1 _ _ c5
             have hbw1 := hbw.trans (hb1.mono hsz)
             go_wp2_with fail
             refine (HNM.out _).mono ?_
             clear HNM
             rintro e w2 ⟨rfl, hb2⟩
             have K2 := K1.trans (Keep.below hb2)
             have d5 := K2 _ _ c5
             have hbw2 := hbw1.trans (hb2.mono hbw1.size)
             cases t3
             · have HS := Lib.hid (show rest = false by rw [← HRR.out]; simp)
               go_wp2_with fail
               go_ret
               exact ⟨ret_bool (by rw [HT.out, HS.out]; rfl), hbw2⟩
             · have HS := Lib.hid (show rest = !t4 by rw [← HRR.out]; simp)
               go_wp2_with fail
               refine (HSU.out _ K2).mono ?_
               rintro e w3 ⟨rfl, rfl⟩
               go_wp2_with fail
               go_ret
               exact ⟨ret_bool (by rw [HT.out, HS.out]; simp), hbw2⟩
         · go_wp2_with fail
           refine (HNM.out _).mono ?_
           clear HNM
           rintro e w2 ⟨rfl, hb2⟩
           have K2 := Keep.below hb2
           have d5 := K2 _ _ c5
           have hbw2 := hbw.trans (hb2.mono hsz)
           cases t3
           · have HS := Lib.hid (show rest = false by rw [← HRR.out]; simp)
             go_wp2_with fail
             go_ret
             exact ⟨ret_bool (by rw [HT.out, HS.out]; rfl), hbw2⟩
           · have HS := Lib.hid (show rest = !t4 by rw [← HRR.out]; simp)
             go_wp2_with fail
             refine (HSU.out _ K2).mono ?_
             rintro e w3 ⟨rfl, rfl⟩
             go_wp2_with fail
             go_ret
             exact ⟨ret_bool (by rw [HT.out, HS.out]; simp), hbw2⟩
       · obtain ⟨t1, g1⟩ : ∃ q, ty.toList.isEmpty = q := ⟨_, rfl⟩
         obtain ⟨t2, g2⟩ : ∃ q, nm.toList.isEmpty = q := ⟨_, rfl⟩
         obtain ⟨t4, g4⟩ : ∃ q, hasSup (l.drop 1) = q := ⟨_, rfl⟩
         have HRR := Lib.hid (show (!s && (t1 && (t2 && !t4))) = rest by rw [← HRE.out]; simp only [emp, g1, g2, g4, if_true])
         clear HRE
         have HBF := Lib.hid (behindFirst_any wr v l HRW.out)
         have HSU : Hid (∀ v', Rw wr .st v' (l.drop 1) → Calls Tryz.prog 107 #[v'] wr fun e w' => e = .returned (.bool t4) ∧ wr = w') := by
           show ∀ v', _
           intro v' h; have := hasSuper_any wr v' _ h; rw [g4] at this; exact this
         clear g4
         cases s
         · cases t1
           · have HS := Lib.hid (show rest = false by rw [← HRR.out]; simp)
             go_wp2_with fail
             go_ret
             exact ⟨ret_bool (by rw [HT.out, HS.out]; rfl), hbw⟩
           · cases t2
             · have HS := Lib.hid (show rest = false by rw [← HRR.out]; simp)
               go_wp2_with fail
               go_ret
               exact ⟨ret_bool (by rw [HT.out, HS.out]; rfl), hbw⟩
             · have HS := Lib.hid (show rest = !t4 by rw [← HRR.out]; simp)
               go_wp2_with fail
               refine HBF.out.mono ?_
               clear HBF
               rintro e w1 ⟨v', rfl, hr', rfl⟩
               have HSU2 := Lib.hid (HSU.out v' hr')
               clear hr'
               go_wp2_with fail
               refine HSU2.out.mono ?_
               rintro e w2 ⟨rfl, rfl⟩
               go_wp2_with fail
               go_ret
               exact ⟨ret_bool (by rw [HT.out, HS.out]; simp), hbw⟩
         · have HS := Lib.hid (show rest = false by rw [← HRR.out]; simp)
           go_wp2_with fail
           go_ret
           exact ⟨ret_bool (by rw [HT.out, HS.out]; rfl), hbw⟩
 · have HF : fitsB (.mt s c ty nm (.slice A ps.length cap) ps v l) = false := by
     simp only [fitsB, fitM]
     rw [hn, decide_eq_false h6]; simp
   rw [HF]
   clear HF hp hk
   rw [hn] at c4 hm
   clear hn
   have h6' : (6 : Int) < n := by omega
   go_enter Tryz.func70, Tryz.ntmps70
   go_wp2_with fail
   go_ret
   exact ⟨rfl, Below.refl _ _⟩
end
end Go.Proofs.YtipcoglddfgopaaGreatDoor
