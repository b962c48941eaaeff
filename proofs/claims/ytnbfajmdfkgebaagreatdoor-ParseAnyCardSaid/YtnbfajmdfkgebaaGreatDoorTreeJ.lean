/- Parts of the proof: TreeJ. -/
import Derived.Test.YtnbfajmdfkgebaaGreatDoorP7
set_option maxHeartbeats 4000000
set_option maxRecDepth 100000
set_option linter.unusedSimpArgs false
set_option linter.unusedVariables false
namespace Go.Proofs.YtnbfajmdfkgebaaGreatDoor
open Go.RowKit
theorem kout (k : Int) (h1 : ¬ k = 1) (h2 : ¬ k = 2) (h3 : ¬ k = 3) (h4 : ¬ k = 4) (h5 : ¬ k = 5) (h6 : ¬ k = 6) (h7 : ¬ k = 7) (h8 : ¬ k = 8) (h9 : ¬ k = 9) (h10 : ¬ k = 10) (h11 : ¬ k = 11) (h12 : ¬ k = 12) (h13 : ¬ k = 13) (h14 : ¬ k = 14) (h15 : ¬ k = 15) (h16 : ¬ k = 16) (h17 : ¬ k = 17) (h18 : ¬ k = 18) : k < 1 ∨ 18 < k := by
 rcases Int.lt_or_le k 1 with h | h
 · exact .inl h
 · refine .inr ?_
   have step : ∀ j : Int, j ≤ k → ¬ k = j → j + 1 ≤ k := fun j a b => by omega
   have g1 := step 1 h h1
   have g2 := step 2 g1 h2
   have g3 := step 3 g2 h3
   have g4 := step 4 g3 h4
   have g5 := step 5 g4 h5
   have g6 := step 6 g5 h6
   have g7 := step 7 g6 h7
   have g8 := step 8 g7 h8
   have g9 := step 9 g8 h9
   have g10 := step 10 g9 h10
   have g11 := step 11 g10 h11
   have g12 := step 12 g11 h12
   have g13 := step 13 g12 h13
   have g14 := step 14 g13 h14
   have g15 := step 15 g14 h15
   have g16 := step 16 g15 h16
   have g17 := step 17 g16 h17
   have g18 := step 18 g17 h18
   clear h1 h2 h3 h4 h5 h6 h7 h8 h9 h10 h11 h12 h13 h14 h15 h16 h17 h18
   omega
theorem kall (k : Int) : (k < 1 ∨ 18 < k) ∨ k = 1 ∨ k = 2 ∨ k = 3 ∨ k = 4 ∨ k = 5 ∨ k = 6 ∨ k = 7 ∨ k = 8 ∨ k = 9 ∨ k = 10 ∨ k = 11 ∨ k = 12 ∨ k = 13 ∨ k = 14 ∨ k = 15 ∨ k = 16 ∨ k = 17 ∨ k = 18 :=
 if h1 : k = 1 then .inr (.inl h1) else
 if h2 : k = 2 then .inr (.inr (.inl h2)) else
 if h3 : k = 3 then .inr (.inr (.inr (.inl h3))) else
 if h4 : k = 4 then .inr (.inr (.inr (.inr (.inl h4)))) else
 if h5 : k = 5 then .inr (.inr (.inr (.inr (.inr (.inl h5))))) else
 if h6 : k = 6 then .inr (.inr (.inr (.inr (.inr (.inr (.inl h6)))))) else
 if h7 : k = 7 then .inr (.inr (.inr (.inr (.inr (.inr (.inr (.inl h7))))))) else
 if h8 : k = 8 then .inr (.inr (.inr (.inr (.inr (.inr (.inr (.inr (.inl h8)))))))) else
 if h9 : k = 9 then .inr (.inr (.inr (.inr (.inr (.inr (.inr (.inr (.inr (.inl h9))))))))) else
 if h10 : k = 10 then .inr (.inr (.inr (.inr (.inr (.inr (.inr (.inr (.inr (.inr (.inl h10)))))))))) else
 if h11 : k = 11 then .inr (.inr (.inr (.inr (.inr (.inr (.inr (.inr (.inr (.inr (.inr (.inl h11))))))))))) else
 if h12 : k = 12 then .inr (.inr (.inr (.inr (.inr (.inr (.inr (.inr (.inr (.inr (.inr (.inr (.inl h12)))))))))))) else
 if h13 : k = 13 then .inr (.inr (.inr (.inr (.inr (.inr (.inr (.inr (.inr (.inr (.inr (.inr (.inr (.inl h13))))))))))))) else
 if h14 : k = 14 then .inr (.inr (.inr (.inr (.inr (.inr (.inr (.inr (.inr (.inr (.inr (.inr (.inr (.inr (.inl h14)))))))))))))) else
 if h15 : k = 15 then .inr (.inr (.inr (.inr (.inr (.inr (.inr (.inr (.inr (.inr (.inr (.inr (.inr (.inr (.inr (.inl h15))))))))))))))) else
 if h16 : k = 16 then .inr (.inr (.inr (.inr (.inr (.inr (.inr (.inr (.inr (.inr (.inr (.inr (.inr (.inr (.inr (.inr (.inl h16)))))))))))))))) else
 if h17 : k = 17 then .inr (.inr (.inr (.inr (.inr (.inr (.inr (.inr (.inr (.inr (.inr (.inr (.inr (.inr (.inr (.inr (.inr (.inl h17))))))))))))))))) else
 if h18 : k = 18 then .inr (.inr (.inr (.inr (.inr (.inr (.inr (.inr (.inr (.inr (.inr (.inr (.inr (.inr (.inr (.inr (.inr (.inr (h18)))))))))))))))))) else
 .inl (kout k h1 h2 h3 h4 h5 h6 h7 h8 h9 h10 h11 h12 h13 h14 h15 h16 h17 h18)
theorem kne {k : Int} (h : k < 1 ∨ 18 < k) (i : Int) (h1 : 1 ≤ i) (h2 : i ≤ 18) : (k == i) = false := by rw [beq_eq_false_iff_ne]; omega
theorem listE_out (k : Int) (n : Nat) (h : k < 1 ∨ 18 < k) : listE k n = false := by
 unfold listE
 rw [if_neg (by omega), if_neg (by omega), if_neg (by omega), if_neg (by omega), decide_eq_false (by omega)]
theorem ret_bool {a b : Bool} (h : a = b) : Ending.returned (.bool a) = .returned (.bool b) := by rw [h]
theorem exprNum_any (w : World) (b o : Nat) (k n : Int) (c0 : w.cell? ⟨b, o, none⟩ = some (.int .i64 k)) (c1 : w.cell? ⟨b, o + 1, none⟩ = some (.int .i32 n)) :
   Calls Tryz.prog 120 #[.pointer (some ⟨b, o, none⟩)] w fun e w' => e = .returned (.bool (numE k n)) ∧ w = w' := by
 go_enter Tryz.func120, Tryz.ntmps120
 go_wp2_with fail
 all_goals (go_ret; refine ⟨ret_bool ?_, rfl⟩; clear c0 c1; unfold numE; (repeat' split) <;> first | (exfalso; omega) | (rw [Bool.eq_iff_iff]; simp only [beq_iff_eq, decide_eq_true_eq, Bool.or_eq_true, Bool.and_eq_true, Bool.false_eq_true, true_iff, iff_true] <;> omega) | simp_all)
theorem binary_any (w : World) (s : ByteArray) : Calls Tryz.prog 143 #[.string s] w fun e w' => e = .returned (.bool (binB s)) ∧ w = w' := by
 go_enter Tryz.func143, Tryz.ntmps143
 go_wp2_with fail
 all_goals (go_ret; exact ⟨by simp_all [binB], rfl⟩)
theorem unary_any (w : World) (s : ByteArray) : Calls Tryz.prog 144 #[.string s] w fun e w' => e = .returned (.bool (unB s)) ∧ w = w' := by
 go_enter Tryz.func144, Tryz.ntmps144
 go_wp2_with fail
 all_goals (go_ret; exact ⟨by simp_all [unB, Bool.or_assoc], rfl⟩)
theorem exprList_any (w : World) (b o : Nat) (k : Int) (A : Option Addr) (n cap : Nat) (hn : n ≤ maxLen) (c0 : w.cell? ⟨b, o, none⟩ = some (.int .i64 k)) (c5 : w.cell? ⟨b, o + 5, none⟩ = some (.slice A n cap)) :
   Calls Tryz.prog 124 #[.pointer (some ⟨b, o, none⟩)] w fun e w' => e = .returned (.bool (listE k n)) ∧ w = w' := by
 unfold maxLen at hn
 obtain ⟨r, hr⟩ : ∃ r, listE k n = r := ⟨_, rfl⟩
 rw [hr]
 have HR := Lib.hid hr; clear hr
 rcases kall k with h | rfl | rfl | rfl | rfl | rfl | rfl | rfl | rfl | rfl | rfl | rfl | rfl | rfl | rfl | rfl | rfl | rfl | rfl
 · have HR2 := Lib.hid (HR.out.symm.trans (listE_out k n h))
   have f1 := kne h 1 (by omega) (by omega)
   have f2 := kne h 2 (by omega) (by omega)
   have f3 := kne h 3 (by omega) (by omega)
   have f4 := kne h 4 (by omega) (by omega)
   have f5 := kne h 5 (by omega) (by omega)
   have f6 := kne h 6 (by omega) (by omega)
   have f7 := kne h 7 (by omega) (by omega)
   have f8 := kne h 8 (by omega) (by omega)
   have f9 := kne h 9 (by omega) (by omega)
   have f10 := kne h 10 (by omega) (by omega)
   have f11 := kne h 11 (by omega) (by omega)
   have f12 := kne h 12 (by omega) (by omega)
   have f13 := kne h 13 (by omega) (by omega)
   have f14 := kne h 14 (by omega) (by omega)
   have f15 := kne h 15 (by omega) (by omega)
   have f16 := kne h 16 (by omega) (by omega)
   have f17 := kne h 17 (by omega) (by omega)
   have f18 := kne h 18 (by omega) (by omega)
   go_enter Tryz.func124, Tryz.ntmps124
   go_wp2_with fail
   go_ret
   exact ⟨ret_bool HR2.out.symm, rfl⟩
 all_goals go_enter Tryz.func124, Tryz.ntmps124
 all_goals go_wp2_with fail
 all_goals (go_ret; refine ⟨ret_bool ?_, rfl⟩; rw [← HR.out]; clear c0 c5; simp only [listE] <;> rw [Bool.eq_iff_iff] <;> simp <;> omega)
theorem exprText_any (w : World) (b o : Nat) (k : Int) (s : ByteArray) (hs : s.size ≤ maxLen) (c0 : w.cell? ⟨b, o, none⟩ = some (.int .i64 k)) (c2 : w.cell? ⟨b, o + 2, none⟩ = some (.string s)) :
   Calls Tryz.prog 121 #[.pointer (some ⟨b, o, none⟩)] w fun e w' => e = .returned (.bool (textE k s)) ∧ Below w.heap.size w w' := by
 have HB := Lib.hid (bad_any s w hs)
 by_cases hk : k = 3
 · subst hk
   by_cases hl : s.size ≤ 1000
   · have hl' : (s.size : Int) ≤ 1000 := by omega
     obtain ⟨q, hq⟩ : ∃ q, bad s = q := ⟨_, rfl⟩
     rw [hq] at HB
     have HT := Lib.hid (show textE 3 s = decide (q < 0) by simp only [textE, if_pos, hl, decide_true, Bool.true_and, hq])
     clear hq
     rw [HT.out]
     go_enter Tryz.func121, Tryz.ntmps121
     go_wp2_with (go_at_call 53; refine HB.out.mono ?_; clear HB; rintro e w1 ⟨rfl, hb⟩)
     go_ret
     exact ⟨rfl, hb⟩
   · have hl' : (1000 : Int) < s.size := by omega
     have HT := Lib.hid (show textE 3 s = false by simp [textE, hl])
     rw [HT.out]
     clear HB
     go_enter Tryz.func121, Tryz.ntmps121
     go_wp2_with fail
     go_ret
     exact ⟨rfl, Below.refl _ _⟩
 · have hk' : ((k : Int) == 3) = false := by rw [beq_eq_false_iff_ne]; exact hk
   have HT := Lib.hid (show textE k s = s.toList.isEmpty by simp [textE, hk, emp])
   rw [HT.out]
   clear HB
   go_enter Tryz.func121, Tryz.ntmps121
   go_wp2_with fail
   go_ret
   exact ⟨ret_bool (by first | rfl | simp [Lib.toList_data]), Below.refl _ _⟩
theorem exprType_any (w : World) (b o : Nat) (k : Int) (s : ByteArray) (hs : s.size ≤ maxLen) (c0 : w.cell? ⟨b, o, none⟩ = some (.int .i64 k)) (c4 : w.cell? ⟨b, o + 4, none⟩ = some (.string s)) :
   Calls Tryz.prog 123 #[.pointer (some ⟨b, o, none⟩)] w fun e w' => e = .returned (.bool (typeE k s)) ∧ Below w.heap.size w w' := by
 have HB := Lib.hid (class_any s w hs)
 obtain ⟨q, hq⟩ : ∃ q, classOk s = q := ⟨_, rfl⟩
 rw [hq] at HB
 obtain ⟨r, hr⟩ : ∃ r, typeE k s = r := ⟨_, rfl⟩
 rw [hr]
 have HR := Lib.hid (show (if k = 9 ∨ k = 13 ∨ k = 14 ∨ k = 15 ∨ k = 16 then q else s.toList.isEmpty) = r by rw [← hr]; simp only [typeE, hq, emp])
 clear hr hq hs
 rcases kall k with h | rfl | rfl | rfl | rfl | rfl | rfl | rfl | rfl | rfl | rfl | rfl | rfl | rfl | rfl | rfl | rfl | rfl | rfl
 · have HR2 := Lib.hid (show r = s.toList.isEmpty by rw [← HR.out, if_neg (by omega)])
   have f1 := kne h 1 (by omega) (by omega)
   have f2 := kne h 2 (by omega) (by omega)
   have f3 := kne h 3 (by omega) (by omega)
   have f4 := kne h 4 (by omega) (by omega)
   have f5 := kne h 5 (by omega) (by omega)
   have f6 := kne h 6 (by omega) (by omega)
   have f7 := kne h 7 (by omega) (by omega)
   have f8 := kne h 8 (by omega) (by omega)
   have f9 := kne h 9 (by omega) (by omega)
   have f10 := kne h 10 (by omega) (by omega)
   have f11 := kne h 11 (by omega) (by omega)
   have f12 := kne h 12 (by omega) (by omega)
   have f13 := kne h 13 (by omega) (by omega)
   have f14 := kne h 14 (by omega) (by omega)
   have f15 := kne h 15 (by omega) (by omega)
   have f16 := kne h 16 (by omega) (by omega)
   have f17 := kne h 17 (by omega) (by omega)
   have f18 := kne h 18 (by omega) (by omega)
   clear HB
   go_enter Tryz.func123, Tryz.ntmps123
   go_wp2_with fail
   go_ret
   exact ⟨ret_bool HR2.out.symm, Below.refl _ _⟩
 all_goals go_enter Tryz.func123, Tryz.ntmps123
 all_goals go_wp2_with (go_at_call 81; refine HB.out.mono ?_; clear HB; rintro e w1 ⟨rfl, hb⟩)
 all_goals (go_ret; refine ⟨ret_bool ?_, ?_⟩)
 all_goals first | exact hb | exact Below.refl _ _ | (rw [← HR.out]; done) | (rw [← HR.out]; simp)
theorem exprName_any (w : World) (b o : Nat) (k : Int) (s : ByteArray) (hs : s.size ≤ maxLen) (c0 : w.cell? ⟨b, o, none⟩ = some (.int .i64 k)) (c3 : w.cell? ⟨b, o + 3, none⟩ = some (.string s)) :
   Calls Tryz.prog 122 #[.pointer (some ⟨b, o, none⟩)] w fun e w' => e = .returned (.bool (nameE k s)) ∧ Below w.heap.size w w' := by
 have HB := Lib.hid (name_any s w hs)
 have H1 := Lib.hid (binary_any w s)
 have H2 := Lib.hid (unary_any w s)
 obtain ⟨q, hq⟩ : ∃ q, nameOk s = q := ⟨_, rfl⟩
 rw [hq] at HB
 obtain ⟨q1, hq1⟩ : ∃ q, binB s = q := ⟨_, rfl⟩
 rw [hq1] at H1
 obtain ⟨q2, hq2⟩ : ∃ q, unB s = q := ⟨_, rfl⟩
 rw [hq2] at H2
 obtain ⟨r, hr⟩ : ∃ r, nameE k s = r := ⟨_, rfl⟩
 rw [hr]
 have HR := Lib.hid (show (if 6 ≤ k ∧ k ≤ 13 then q else if k = 17 then q1 else if k = 18 then q2 else s.toList.isEmpty) = r by rw [← hr]; simp only [nameE, hq, hq1, hq2, emp])
 clear hr hq hq1 hq2 hs
 rcases kall k with h | rfl | rfl | rfl | rfl | rfl | rfl | rfl | rfl | rfl | rfl | rfl | rfl | rfl | rfl | rfl | rfl | rfl | rfl
 · have HR2 := Lib.hid (show r = s.toList.isEmpty by rw [← HR.out, if_neg (by omega), if_neg (by omega), if_neg (by omega)])
   have f1 := kne h 1 (by omega) (by omega)
   have f2 := kne h 2 (by omega) (by omega)
   have f3 := kne h 3 (by omega) (by omega)
   have f4 := kne h 4 (by omega) (by omega)
   have f5 := kne h 5 (by omega) (by omega)
   have f6 := kne h 6 (by omega) (by omega)
   have f7 := kne h 7 (by omega) (by omega)
   have f8 := kne h 8 (by omega) (by omega)
   have f9 := kne h 9 (by omega) (by omega)
   have f10 := kne h 10 (by omega) (by omega)
   have f11 := kne h 11 (by omega) (by omega)
   have f12 := kne h 12 (by omega) (by omega)
   have f13 := kne h 13 (by omega) (by omega)
   have f14 := kne h 14 (by omega) (by omega)
   have f15 := kne h 15 (by omega) (by omega)
   have f16 := kne h 16 (by omega) (by omega)
   have f17 := kne h 17 (by omega) (by omega)
   have f18 := kne h 18 (by omega) (by omega)
   clear HB H1 H2
   go_enter Tryz.func122, Tryz.ntmps122
   go_wp2_with fail
   go_ret
   exact ⟨ret_bool HR2.out.symm, Below.refl _ _⟩
 all_goals go_enter Tryz.func122, Tryz.ntmps122
 all_goals go_wp2_with (first | (go_at_call 80; refine HB.out.mono ?_; clear HB; rintro e w1 ⟨rfl, hb⟩) | (go_at_call 143; refine H1.out.mono ?_; rintro e w1 ⟨rfl, rfl⟩) | (go_at_call 144; refine H2.out.mono ?_; rintro e w1 ⟨rfl, rfl⟩))
 all_goals (go_ret; refine ⟨ret_bool ?_, ?_⟩)
 all_goals first | exact hb | exact Below.refl _ _ | (rw [← HR.out]; done) | (rw [← HR.out]; simp)
end Go.Proofs.YtnbfajmdfkgebaaGreatDoor
