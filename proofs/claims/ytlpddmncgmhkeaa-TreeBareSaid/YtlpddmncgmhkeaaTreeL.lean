/- Contracts of what fits of statements. Written by wip/tools/gen_tree_l.py. -/
import Derived.Test.YtlpddmncgmhkeaaTreeK
set_option linter.unusedSimpArgs false
set_option linter.unusedVariables false
namespace Go.Proofs.Ytlpddmncgmhkeaa
open Go.RowKit
theorem sout (k : Int) (h1 : ¬ k = 1) (h2 : ¬ k = 2) (h3 : ¬ k = 3) (h4 : ¬ k = 4) (h5 : ¬ k = 5) (h6 : ¬ k = 6) (h7 : ¬ k = 7) (h8 : ¬ k = 8) (h9 : ¬ k = 9) (h10 : ¬ k = 10) (h11 : ¬ k = 11) : k < 1 ∨ 11 < k := by
  rcases Int.lt_or_le k 1 with h | h
  · exact .inl h
  · refine .inr ?_
    have step : ∀ j : Int, j ≤ k → ¬ k = j → j + 1 ≤ k := fun j a b => by omega
    have g1 := step 1 h h1
    have g2 := step 2 g1 h2
    have g3 := step 3 g2 h3
    have g4 := step 4 g3 h4
    have g5 := step 5 g4 h5
    have g6 := step 6 g5 h6
    have g7 := step 7 g6 h7
    have g8 := step 8 g7 h8
    have g9 := step 9 g8 h9
    have g10 := step 10 g9 h10
    have g11 := step 11 g10 h11
    clear h1 h2 h3 h4 h5 h6 h7 h8 h9 h10 h11
    omega
theorem sall (k : Int) : (k < 1 ∨ 11 < k) ∨ k = 1 ∨ k = 2 ∨ k = 3 ∨ k = 4 ∨ k = 5 ∨ k = 6 ∨ k = 7 ∨ k = 8 ∨ k = 9 ∨ k = 10 ∨ k = 11 :=
  if h1 : k = 1 then .inr (.inl h1) else
  if h2 : k = 2 then .inr (.inr (.inl h2)) else
  if h3 : k = 3 then .inr (.inr (.inr (.inl h3))) else
  if h4 : k = 4 then .inr (.inr (.inr (.inr (.inl h4)))) else
  if h5 : k = 5 then .inr (.inr (.inr (.inr (.inr (.inl h5))))) else
  if h6 : k = 6 then .inr (.inr (.inr (.inr (.inr (.inr (.inl h6)))))) else
  if h7 : k = 7 then .inr (.inr (.inr (.inr (.inr (.inr (.inr (.inl h7))))))) else
  if h8 : k = 8 then .inr (.inr (.inr (.inr (.inr (.inr (.inr (.inr (.inl h8)))))))) else
  if h9 : k = 9 then .inr (.inr (.inr (.inr (.inr (.inr (.inr (.inr (.inr (.inl h9))))))))) else
  if h10 : k = 10 then .inr (.inr (.inr (.inr (.inr (.inr (.inr (.inr (.inr (.inr (.inl h10)))))))))) else
  if h11 : k = 11 then .inr (.inr (.inr (.inr (.inr (.inr (.inr (.inr (.inr (.inr (.inr (h11))))))))))) else
  .inl (sout k h1 h2 h3 h4 h5 h6 h7 h8 h9 h10 h11)
theorem sne {k : Int} (h : k < 1 ∨ 11 < k) (i : Int) (h1 : 1 ≤ i) (h2 : i ≤ 11) : (k == i) = false := by rw [beq_eq_false_iff_ne]; omega
set_option maxRecDepth 100000 in
set_option maxHeartbeats 4000000 in
theorem valueType_any (w : World) (s : ByteArray) (hs : s.size ≤ maxLen) : Calls Try.prog 64 #[.string s] w fun e w' => e = .returned (.bool (valT s)) ∧ Below w.heap.size w w' := by
  have HB := Lib.hid (class_any s w hs)
  obtain ⟨q, hq⟩ : ∃ q, classOk s = q := ⟨_, rfl⟩
  rw [hq] at HB
  obtain ⟨q1, e1⟩ : ∃ q, (s.toList == [105, 110, 116]) = q := ⟨_, rfl⟩
  obtain ⟨q2, e2⟩ : ∃ q, (s.toList == [98, 111, 111, 108, 101, 97, 110]) = q := ⟨_, rfl⟩
  obtain ⟨q3, e3⟩ : ∃ q, (s.toList == [83, 116, 114, 105, 110, 103]) = q := ⟨_, rfl⟩
  simp only [valT, e1, e2, e3, hq]
  clear hq hs
  cases q1
  · cases q2
    · cases q3
      · go_enter Try.func64, Try.ntmps64
        go_wp2_with (go_at_call 81; refine HB.out.mono ?_; clear HB; rintro e w1 ⟨rfl, hb⟩)
        go_ret
        exact ⟨ret_bool (by simp), hb⟩
      · go_enter Try.func64, Try.ntmps64
        go_wp2_with fail
        go_ret
        exact ⟨ret_bool (by simp), Below.refl _ _⟩
    · go_enter Try.func64, Try.ntmps64
      go_wp2_with fail
      go_ret
      exact ⟨ret_bool (by simp), Below.refl _ _⟩
  · go_enter Try.func64, Try.ntmps64
    go_wp2_with fail
    go_ret
    exact ⟨ret_bool (by simp), Below.refl _ _⟩
set_option maxRecDepth 100000 in
set_option maxHeartbeats 4000000 in
theorem stmtNum_any (w : World) (b o : Nat) (k n : Int) (c0 : w.cell? ⟨b, o, none⟩ = some (.int .i64 k)) (c1 : w.cell? ⟨b, o + 1, none⟩ = some (.int .i32 n)) :
    Calls Try.prog 74 #[.pointer (some ⟨b, o, none⟩)] w fun e w' => e = .returned (.bool (numS k n)) ∧ w = w' := by
  go_enter Try.func74, Try.ntmps74
  go_wp2_with fail
  all_goals (go_ret; refine ⟨ret_bool ?_, rfl⟩; clear c0 c1; unfold numS; (repeat' split) <;> first | (exfalso; omega) | (rw [Bool.eq_iff_iff]; simp only [beq_iff_eq, decide_eq_true_eq, Bool.or_eq_true, Bool.and_eq_true, Bool.false_eq_true, true_iff, iff_true, false_iff, iff_false] <;> omega) | simp_all)
set_option maxRecDepth 100000 in
set_option maxHeartbeats 4000000 in
theorem stmtType_any (w : World) (b o : Nat) (k : Int) (s : ByteArray) (hs : s.size ≤ maxLen) (c0 : w.cell? ⟨b, o, none⟩ = some (.int .i64 k)) (c2 : w.cell? ⟨b, o + 2, none⟩ = some (.string s)) :
    Calls Try.prog 75 #[.pointer (some ⟨b, o, none⟩)] w fun e w' => e = .returned (.bool (typeS k s)) ∧ Below w.heap.size w w' := by
  have HB := Lib.hid (class_any s w hs)
  have HV := Lib.hid (valueType_any w s hs)
  obtain ⟨q, hq⟩ : ∃ q, classOk s = q := ⟨_, rfl⟩
  rw [hq] at HB
  obtain ⟨q1, hq1⟩ : ∃ q, valT s = q := ⟨_, rfl⟩
  rw [hq1] at HV
  obtain ⟨r, hr⟩ : ∃ r, typeS k s = r := ⟨_, rfl⟩
  rw [hr]
  have HR := Lib.hid (show (if k = 1 then q1 else if k = 10 then q else s.toList.isEmpty) = r by rw [← hr]; simp only [typeS, hq, hq1, emp])
  clear hr hq hq1 hs
  rcases sall k with h | rfl | rfl | rfl | rfl | rfl | rfl | rfl | rfl | rfl | rfl | rfl
  · have HR2 := Lib.hid (show r = s.toList.isEmpty by rw [← HR.out, if_neg (by omega), if_neg (by omega)])
    have f1 := sne h 1 (by omega) (by omega); have f2 := sne h 2 (by omega) (by omega); have f3 := sne h 3 (by omega) (by omega); have f4 := sne h 4 (by omega) (by omega); have f5 := sne h 5 (by omega) (by omega); have f6 := sne h 6 (by omega) (by omega); have f7 := sne h 7 (by omega) (by omega); have f8 := sne h 8 (by omega) (by omega); have f9 := sne h 9 (by omega) (by omega); have f10 := sne h 10 (by omega) (by omega); have f11 := sne h 11 (by omega) (by omega); 
    clear HB HV
    go_enter Try.func75, Try.ntmps75
    go_wp2_with fail
    go_ret
    exact ⟨ret_bool HR2.out.symm, Below.refl _ _⟩
  all_goals go_enter Try.func75, Try.ntmps75
  all_goals go_wp2_with (first | (go_at_call 81; refine HB.out.mono ?_; clear HB; rintro e w1 ⟨rfl, hb⟩) | (go_at_call 64; refine HV.out.mono ?_; clear HV; rintro e w1 ⟨rfl, hb⟩))
  all_goals (go_ret; refine ⟨ret_bool ?_, ?_⟩)
  all_goals first | exact hb | exact Below.refl _ _ | (rw [← HR.out]; done) | (rw [← HR.out]; simp)
set_option maxRecDepth 100000 in
set_option maxHeartbeats 4000000 in
theorem stmtName_any (w : World) (b o : Nat) (k : Int) (s : ByteArray) (hs : s.size ≤ maxLen) (c0 : w.cell? ⟨b, o, none⟩ = some (.int .i64 k)) (c3 : w.cell? ⟨b, o + 3, none⟩ = some (.string s)) :
    Calls Try.prog 76 #[.pointer (some ⟨b, o, none⟩)] w fun e w' => e = .returned (.bool (nameS k s)) ∧ Below w.heap.size w w' := by
  have HB := Lib.hid (name_any s w hs)
  obtain ⟨q, hq⟩ : ∃ q, nameOk s = q := ⟨_, rfl⟩
  rw [hq] at HB
  obtain ⟨r, hr⟩ : ∃ r, nameS k s = r := ⟨_, rfl⟩
  rw [hr]
  have HR := Lib.hid (show (if k = 1 ∨ k = 10 then q else s.toList.isEmpty) = r by rw [← hr]; simp only [nameS, hq, emp])
  clear hr hq hs
  rcases sall k with h | rfl | rfl | rfl | rfl | rfl | rfl | rfl | rfl | rfl | rfl | rfl
  · have HR2 := Lib.hid (show r = s.toList.isEmpty by rw [← HR.out, if_neg (by omega)])
    have f1 := sne h 1 (by omega) (by omega); have f2 := sne h 2 (by omega) (by omega); have f3 := sne h 3 (by omega) (by omega); have f4 := sne h 4 (by omega) (by omega); have f5 := sne h 5 (by omega) (by omega); have f6 := sne h 6 (by omega) (by omega); have f7 := sne h 7 (by omega) (by omega); have f8 := sne h 8 (by omega) (by omega); have f9 := sne h 9 (by omega) (by omega); have f10 := sne h 10 (by omega) (by omega); have f11 := sne h 11 (by omega) (by omega); 
    clear HB
    go_enter Try.func76, Try.ntmps76
    go_wp2_with fail
    go_ret
    exact ⟨ret_bool HR2.out.symm, Below.refl _ _⟩
  all_goals go_enter Try.func76, Try.ntmps76
  all_goals go_wp2_with (first | (go_at_call 65; refine HB.out.mono ?_; clear HB; rintro e w1 ⟨rfl, hb⟩))
  all_goals (go_ret; refine ⟨ret_bool ?_, ?_⟩)
  all_goals first | exact hb | exact Below.refl _ _ | (rw [← HR.out]; done) | (rw [← HR.out]; simp)
theorem headK_at {l : List Nd} {x : Nd} (h : l[0]? = some x) : headK l = x.kind := by
  cases l with
  | nil => simp at h
  | cons y l => simp at h; subst h; rfl
set_option maxRecDepth 100000 in
set_option maxHeartbeats 4000000 in
theorem stmtExprs_any (w : World) (b o : Nat) (k : Int) (v : Value) (l : List Nd) (hr : Rw w .ex v l) (c0 : w.cell? ⟨b, o, none⟩ = some (.int .i64 k)) (c4 : w.cell? ⟨b, o + 4, none⟩ = some v) :
    Calls Try.prog 77 #[.pointer (some ⟨b, o, none⟩)] w fun e w' => e = .returned (.bool (exprsS k l)) ∧ w = w' := by
  have hm : l.length ≤ maxLen := by obtain ⟨_, _, _, hm, _⟩ := hr; exact hm.1
  unfold maxLen at hm
  obtain ⟨A, cap, rfl⟩ := hr.form
  have HAT : Hid (0 < l.length → ∃ b' o', A = some ⟨b', o', none⟩ ∧ w.cell? ⟨b', o', none⟩ = some (.int .i64 (headK l))) := by
    show _ → _
    intro h0
    obtain ⟨b', o', x, hA, hx, hc⟩ := hr.cell0 (.inl rfl) 0 h0
    exact ⟨b', o', hA, by rw [headK_at hx]; simpa using hc⟩
  obtain ⟨r, hres⟩ : ∃ r, exprsS k l = r := ⟨_, rfl⟩
  rw [hres]
  obtain ⟨n, hn⟩ : ∃ n, l.length = n := ⟨_, rfl⟩
  obtain ⟨h, hh⟩ : ∃ h, headK l = h := ⟨_, rfl⟩
  have HR := Lib.hid (show (if k = 1 ∨ k = 4 ∨ k = 5 ∨ k = 7 ∨ k = 8 ∨ k = 9 then decide (n = 1) else if k = 2 then (decide (n = 2) && setB h) else if k = 3 then (decide (n = 1) && calB h) else if k = 6 then decide (n ≤ 1) else if k = 10 then decide (n = 0) else decide (k = 11)) = r by rw [← hres]; simp only [exprsS, hn, hh])
  rw [hn] at hm c4 HAT
  rw [hh] at HAT
  obtain ⟨qs, hqs⟩ : ∃ q, setB h = q := ⟨_, rfl⟩
  obtain ⟨qc, hqc⟩ : ∃ q, calB h = q := ⟨_, rfl⟩
  have HS : Hid (∀ w, Calls Try.prog 88 #[.int .i64 h] w fun e w' => e = .returned (.bool qs) ∧ w = w') := by
    show ∀ w, _
    intro w; have := settable_any w h; rw [hqs] at this; exact this
  have HC : Hid (∀ w, Calls Try.prog 89 #[.int .i64 h] w fun e w' => e = .returned (.bool qc) ∧ w = w') := by
    show ∀ w, _
    intro w; have := callable_any w h; rw [hqc] at this; exact this
  rw [hqs, hqc] at HR
  clear hr hn hh hres hqs hqc
  rcases sall k with h' | rfl | rfl | rfl | rfl | rfl | rfl | rfl | rfl | rfl | rfl | rfl
  · have HR2 := Lib.hid (show r = false by rw [← HR.out, if_neg (by omega), if_neg (by omega), if_neg (by omega), if_neg (by omega), if_neg (by omega), decide_eq_false (by omega)])
    have f1 := sne h' 1 (by omega) (by omega); have f2 := sne h' 2 (by omega) (by omega); have f3 := sne h' 3 (by omega) (by omega); have f4 := sne h' 4 (by omega) (by omega); have f5 := sne h' 5 (by omega) (by omega); have f6 := sne h' 6 (by omega) (by omega); have f7 := sne h' 7 (by omega) (by omega); have f8 := sne h' 8 (by omega) (by omega); have f9 := sne h' 9 (by omega) (by omega); have f10 := sne h' 10 (by omega) (by omega); have f11 := sne h' 11 (by omega) (by omega); 
    go_enter Try.func77, Try.ntmps77
    go_wp2_with fail
    go_ret
    exact ⟨ret_bool HR2.out.symm, rfl⟩
  · go_enter Try.func77, Try.ntmps77
    go_wp2_with fail
    all_goals (go_ret; refine ⟨ret_bool ?_, rfl⟩; rw [← HR.out] <;> clear c0 c4 <;> first | rfl | (rw [Bool.eq_iff_iff]; simp <;> omega) | simp)
  · by_cases hnn : n = 2
    · subst hnn
      obtain ⟨b', o', rfl, ch⟩ := HAT.out (by omega)
      have HR2 := Lib.hid (show r = qs by rw [← HR.out]; simp)
      go_enter Try.func77, Try.ntmps77
      go_wp2_with (go_at_call 88; refine (HS.out _).mono ?_; rintro e w1 ⟨rfl, rfl⟩)
      go_ret
      exact ⟨ret_bool HR2.out.symm, rfl⟩
    · have HR2 := Lib.hid (show r = false by rw [← HR.out]; simp [hnn])
      have g1 : ((n : Int) == 2) = false := by rw [beq_eq_false_iff_ne]; omega
      clear hnn
      go_enter Try.func77, Try.ntmps77
      go_wp2_with fail
      go_ret
      exact ⟨ret_bool HR2.out.symm, rfl⟩
  · by_cases hnn : n = 1
    · subst hnn
      obtain ⟨b', o', rfl, ch⟩ := HAT.out (by omega)
      have HR2 := Lib.hid (show r = qc by rw [← HR.out]; simp)
      go_enter Try.func77, Try.ntmps77
      go_wp2_with (go_at_call 89; refine (HC.out _).mono ?_; rintro e w1 ⟨rfl, rfl⟩)
      go_ret
      exact ⟨ret_bool HR2.out.symm, rfl⟩
    · have HR2 := Lib.hid (show r = false by rw [← HR.out]; simp [hnn])
      have g1 : ((n : Int) == 1) = false := by rw [beq_eq_false_iff_ne]; omega
      clear hnn
      go_enter Try.func77, Try.ntmps77
      go_wp2_with fail
      go_ret
      exact ⟨ret_bool HR2.out.symm, rfl⟩
  · go_enter Try.func77, Try.ntmps77
    go_wp2_with fail
    all_goals (go_ret; refine ⟨ret_bool ?_, rfl⟩; rw [← HR.out] <;> clear c0 c4 <;> first | rfl | (rw [Bool.eq_iff_iff]; simp <;> omega) | simp)
  · go_enter Try.func77, Try.ntmps77
    go_wp2_with fail
    all_goals (go_ret; refine ⟨ret_bool ?_, rfl⟩; rw [← HR.out] <;> clear c0 c4 <;> first | rfl | (rw [Bool.eq_iff_iff]; simp <;> omega) | simp)
  · go_enter Try.func77, Try.ntmps77
    go_wp2_with fail
    all_goals (go_ret; refine ⟨ret_bool ?_, rfl⟩; rw [← HR.out] <;> clear c0 c4 <;> first | rfl | (rw [Bool.eq_iff_iff]; simp <;> omega) | simp)
  · go_enter Try.func77, Try.ntmps77
    go_wp2_with fail
    all_goals (go_ret; refine ⟨ret_bool ?_, rfl⟩; rw [← HR.out] <;> clear c0 c4 <;> first | rfl | (rw [Bool.eq_iff_iff]; simp <;> omega) | simp)
  · go_enter Try.func77, Try.ntmps77
    go_wp2_with fail
    all_goals (go_ret; refine ⟨ret_bool ?_, rfl⟩; rw [← HR.out] <;> clear c0 c4 <;> first | rfl | (rw [Bool.eq_iff_iff]; simp <;> omega) | simp)
  · go_enter Try.func77, Try.ntmps77
    go_wp2_with fail
    all_goals (go_ret; refine ⟨ret_bool ?_, rfl⟩; rw [← HR.out] <;> clear c0 c4 <;> first | rfl | (rw [Bool.eq_iff_iff]; simp <;> omega) | simp)
  · go_enter Try.func77, Try.ntmps77
    go_wp2_with fail
    all_goals (go_ret; refine ⟨ret_bool ?_, rfl⟩; rw [← HR.out] <;> clear c0 c4 <;> first | rfl | (rw [Bool.eq_iff_iff]; simp <;> omega) | simp)
  · go_enter Try.func77, Try.ntmps77
    go_wp2_with fail
    all_goals (go_ret; refine ⟨ret_bool ?_, rfl⟩; rw [← HR.out] <;> clear c0 c4 <;> first | rfl | (rw [Bool.eq_iff_iff]; simp <;> omega) | simp)
set_option maxRecDepth 100000 in
set_option maxHeartbeats 4000000 in
theorem stmtBlocks_any (w : World) (b o : Nat) (k : Int) (va vb vc : Value) (la lb lc : List Nd) (ha : Rw w .st va la) (hb : Rw w .st vb lb) (hc : Rw w .st vc lc) (c0 : w.cell? ⟨b, o, none⟩ = some (.int .i64 k)) (c5 : w.cell? ⟨b, o + 5, none⟩ = some va) (c6 : w.cell? ⟨b, o + 6, none⟩ = some vb) (c7 : w.cell? ⟨b, o + 7, none⟩ = some vc) :
    Calls Try.prog 78 #[.pointer (some ⟨b, o, none⟩)] w fun e w' => e = .returned (.bool (blocksS k la lb lc)) ∧ w = w' := by
  have HA := Lib.hid (hasSuper_any w va la ha)
  have HB := Lib.hid (hasSuper_any w vb lb hb)
  have HC := Lib.hid (hasSuper_any w vc lc hc)
  obtain ⟨Aa, capa, rfl⟩ := ha.form
  obtain ⟨Ab, capb, rfl⟩ := hb.form
  obtain ⟨Ac, capc, rfl⟩ := hc.form
  obtain ⟨r, hres⟩ : ∃ r, blocksS k la lb lc = r := ⟨_, rfl⟩
  rw [hres]
  obtain ⟨qa, hqa⟩ : ∃ q, hasSup la = q := ⟨_, rfl⟩
  obtain ⟨qb, hqb⟩ : ∃ q, hasSup lb = q := ⟨_, rfl⟩
  obtain ⟨qc, hqc⟩ : ∃ q, hasSup lc = q := ⟨_, rfl⟩
  rw [hqa] at HA
  rw [hqb] at HB
  rw [hqc] at HC
  obtain ⟨na, hna⟩ : ∃ n, la.length = n := ⟨_, rfl⟩
  obtain ⟨nb, hnb⟩ : ∃ n, lb.length = n := ⟨_, rfl⟩
  obtain ⟨nc, hnc⟩ : ∃ n, lc.length = n := ⟨_, rfl⟩
  have HR := Lib.hid (show (!(qa || (qb || qc)) && (if k = 10 then true else if k = 4 then decide (nc = 0) else if k = 5 then (decide (nb = 0) && decide (nc = 0)) else (decide (na = 0) && (decide (nb = 0) && decide (nc = 0))))) = r by rw [← hres]; simp only [blocksS, hqa, hqb, hqc, hna, hnb, hnc])
  rw [hna] at HA c5
  rw [hnb] at HB c6
  rw [hnc] at HC c7
  clear ha hb hc hqa hqb hqc hres hna hnb hnc
  cases qa
  rotate_left
  · have HR2 := Lib.hid (show r = false by rw [← HR.out]; simp)
    go_enter Try.func78, Try.ntmps78
    go_wp2_with (first | (go_at_call_of 79 (Value.slice Aa na capa); refine HA.out.mono ?_; clear HA; rintro e w1 ⟨rfl, rfl⟩) | (go_at_call_of 79 (Value.slice Ab nb capb); refine HB.out.mono ?_; clear HB; rintro e w1 ⟨rfl, rfl⟩) | (go_at_call_of 79 (Value.slice Ac nc capc); refine HC.out.mono ?_; clear HC; rintro e w1 ⟨rfl, rfl⟩))
    go_ret
    exact ⟨ret_bool HR2.out.symm, rfl⟩
  cases qb
  rotate_left
  · have HR2 := Lib.hid (show r = false by rw [← HR.out]; simp)
    go_enter Try.func78, Try.ntmps78
    go_wp2_with (first | (go_at_call_of 79 (Value.slice Aa na capa); refine HA.out.mono ?_; clear HA; rintro e w1 ⟨rfl, rfl⟩) | (go_at_call_of 79 (Value.slice Ab nb capb); refine HB.out.mono ?_; clear HB; rintro e w1 ⟨rfl, rfl⟩) | (go_at_call_of 79 (Value.slice Ac nc capc); refine HC.out.mono ?_; clear HC; rintro e w1 ⟨rfl, rfl⟩))
    go_ret
    exact ⟨ret_bool HR2.out.symm, rfl⟩
  cases qc
  rotate_left
  · have HR2 := Lib.hid (show r = false by rw [← HR.out]; simp)
    go_enter Try.func78, Try.ntmps78
    go_wp2_with (first | (go_at_call_of 79 (Value.slice Aa na capa); refine HA.out.mono ?_; clear HA; rintro e w1 ⟨rfl, rfl⟩) | (go_at_call_of 79 (Value.slice Ab nb capb); refine HB.out.mono ?_; clear HB; rintro e w1 ⟨rfl, rfl⟩) | (go_at_call_of 79 (Value.slice Ac nc capc); refine HC.out.mono ?_; clear HC; rintro e w1 ⟨rfl, rfl⟩))
    go_ret
    exact ⟨ret_bool HR2.out.symm, rfl⟩
  have ea : ((na : Int) == 0) = decide (na = 0) := by rw [Bool.eq_iff_iff]; simp only [beq_iff_eq, decide_eq_true_eq]; omega
  have eb : ((nb : Int) == 0) = decide (nb = 0) := by rw [Bool.eq_iff_iff]; simp only [beq_iff_eq, decide_eq_true_eq]; omega
  have ec : ((nc : Int) == 0) = decide (nc = 0) := by rw [Bool.eq_iff_iff]; simp only [beq_iff_eq, decide_eq_true_eq]; omega
  obtain ⟨za, hza⟩ : ∃ z, decide (na = 0) = z := ⟨_, rfl⟩
  obtain ⟨zb, hzb⟩ : ∃ z, decide (nb = 0) = z := ⟨_, rfl⟩
  obtain ⟨zc, hzc⟩ : ∃ z, decide (nc = 0) = z := ⟨_, rfl⟩
  rw [hza, hzb, hzc] at HR
  rw [hza] at ea
  rw [hzb] at eb
  rw [hzc] at ec
  clear hza hzb hzc
  have HR2 := Lib.hid (show (if k = 10 then true else if k = 4 then zc else if k = 5 then (zb && zc) else (za && (zb && zc))) = r by rw [← HR.out]; simp)
  clear HR
  rcases sall k with h | rfl | rfl | rfl | rfl | rfl | rfl | rfl | rfl | rfl | rfl | rfl
  · have HR3 := Lib.hid (show r = (za && (zb && zc)) by rw [← HR2.out, if_neg (by omega), if_neg (by omega), if_neg (by omega)])
    have f1 := sne h 1 (by omega) (by omega); have f2 := sne h 2 (by omega) (by omega); have f3 := sne h 3 (by omega) (by omega); have f4 := sne h 4 (by omega) (by omega); have f5 := sne h 5 (by omega) (by omega); have f6 := sne h 6 (by omega) (by omega); have f7 := sne h 7 (by omega) (by omega); have f8 := sne h 8 (by omega) (by omega); have f9 := sne h 9 (by omega) (by omega); have f10 := sne h 10 (by omega) (by omega); have f11 := sne h 11 (by omega) (by omega); 
    cases za <;> cases zb
    all_goals go_enter Try.func78, Try.ntmps78
    all_goals go_wp2_with (first | (go_at_call_of 79 (Value.slice Aa na capa); refine HA.out.mono ?_; clear HA; rintro e w1 ⟨rfl, rfl⟩) | (go_at_call_of 79 (Value.slice Ab nb capb); refine HB.out.mono ?_; clear HB; rintro e w1 ⟨rfl, rfl⟩) | (go_at_call_of 79 (Value.slice Ac nc capc); refine HC.out.mono ?_; clear HC; rintro e w1 ⟨rfl, rfl⟩))
    all_goals (go_ret; refine ⟨ret_bool ?_, rfl⟩; rw [HR3.out] <;> simp)
  all_goals cases za <;> cases zb
  all_goals go_enter Try.func78, Try.ntmps78
  all_goals go_wp2_with (first | (go_at_call_of 79 (Value.slice Aa na capa); refine HA.out.mono ?_; clear HA; rintro e w1 ⟨rfl, rfl⟩) | (go_at_call_of 79 (Value.slice Ab nb capb); refine HB.out.mono ?_; clear HB; rintro e w1 ⟨rfl, rfl⟩) | (go_at_call_of 79 (Value.slice Ac nc capc); refine HC.out.mono ?_; clear HC; rintro e w1 ⟨rfl, rfl⟩))
  all_goals (go_ret; refine ⟨ret_bool ?_, rfl⟩; rw [← HR2.out] <;> simp)
end Go.Proofs.Ytlpddmncgmhkeaa
