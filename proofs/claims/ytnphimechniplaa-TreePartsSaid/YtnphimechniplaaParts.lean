/- TreeParts. -/
import Derived.Test.YtnphimechniplaaFewB
set_option linter.unusedSimpArgs false
set_option linter.unusedVariables false
namespace Go.Proofs.Ytnphimechniplaa
open Go.RowKit
set_option maxRecDepth 100000 in
set_option maxHeartbeats 8000000 in
theorem parts_any (w : World) (k n : Int) (tx nm ty : ByteArray) (nv : Value) (l : List Nd) (own : ByteArray) (nth : Int) (k' n' : Int) (tx' nm' ty' : ByteArray) (nv' : Value) (l' : List Nd) (own' : ByteArray) (nth' : Int) (v v' : Value) (m m' : List Nd)
    (hk : Kd w (.ex k n tx nm ty nv l own nth)) (hk' : Kd w (.ex k' n' tx' nm' ty' nv' l' own' nth')) (hr : Rw w .st v m) (hm : KdL w m) (hr' : Rw w .st v' m') (hm' : KdL w m') :
    Calls Try.prog 3 #[.agg #[.int .i64 k, .int .i32 n, .string tx, .string nm, .string ty, nv, .string own, .int .i64 nth], .agg #[.int .i64 k', .int .i32 n', .string tx', .string nm', .string ty', nv', .string own', .int .i64 nth'], v, v'] w fun e w' => e = .returned (.bool true) ∧ Below w.heap.size w w' := by
  obtain ⟨A1, n1, rfl⟩ := (by rw [Kd] at hk; exact hk.2.1.form : ∃ A cap, nv = .slice A l.length cap)
  obtain ⟨A2, n2, rfl⟩ := (by rw [Kd] at hk'; exact hk'.2.1.form : ∃ A cap, nv' = .slice A l'.length cap)
  obtain ⟨A3, n3, rfl⟩ := hr.form
  obtain ⟨A4, n4, rfl⟩ := hr'.form
  obtain ⟨W, hW⟩ : ∃ W, (w.alloc (.cells #[.int .i64 k, .int .i32 n, .string tx, .string nm, .string ty, .slice A1 l.length n1, .string own, .int .i64 nth] 24)).alloc (.cells #[.int .i64 k', .int .i32 n', .string tx', .string nm', .string ty', .slice A2 l'.length n2, .string own', .int .i64 nth'] 24) = W := ⟨_, rfl⟩
  have hb : Below w.heap.size w W := by rw [← hW]; exact ((Below.refl _ w).alloc (Nat.le_refl _) _).alloc (by simp) _
  have hx : Bx W w.heap.size #[.int .i64 k, .int .i32 n, .string tx, .string nm, .string ty, .slice A1 l.length n1, .string own, .int .i64 nth] 24 := by rw [← hW]; exact (Bx.at_new rfl).up _
  have hy : Bx W (w.heap.size + 1) #[.int .i64 k', .int .i32 n', .string tx', .string nm', .string ty', .slice A2 l'.length n2, .string own', .int .i64 nth'] 24 := by rw [← hW]; exact Bx.at_new (by simp)
  have HW := Lib.hid hb
  have HS : Hid (∀ w', Below W.heap.size W w' → w'.cell? ⟨w.heap.size, 0, none⟩ = some (.int .i64 k) ∧ w'.cell? ⟨w.heap.size, 1, none⟩ = some (.int .i32 n) ∧ w'.cell? ⟨w.heap.size, 2, none⟩ = some (.string tx) ∧ w'.cell? ⟨w.heap.size, 3, none⟩ = some (.string nm) ∧ w'.cell? ⟨w.heap.size, 4, none⟩ = some (.string ty) ∧ w'.cell? ⟨w.heap.size, 5, none⟩ = some (.slice A1 l.length n1) ∧ w'.cell? ⟨w.heap.size, 6, none⟩ = some (.string own) ∧ w'.cell? ⟨w.heap.size, 7, none⟩ = some (.int .i64 nth) ∧ w'.cell? ⟨w.heap.size + 1, 0, none⟩ = some (.int .i64 k') ∧ w'.cell? ⟨w.heap.size + 1, 1, none⟩ = some (.int .i32 n') ∧ w'.cell? ⟨w.heap.size + 1, 2, none⟩ = some (.string tx') ∧ w'.cell? ⟨w.heap.size + 1, 3, none⟩ = some (.string nm') ∧ w'.cell? ⟨w.heap.size + 1, 4, none⟩ = some (.string ty') ∧ w'.cell? ⟨w.heap.size + 1, 5, none⟩ = some (.slice A2 l'.length n2) ∧ w'.cell? ⟨w.heap.size + 1, 6, none⟩ = some (.string own') ∧ w'.cell? ⟨w.heap.size + 1, 7, none⟩ = some (.int .i64 nth')) := by
    show ∀ w', _
    intro w' hc
    have hx := hx.next hc; have hy := hy.next hc
    exact ⟨hx.cell 0, hx.cell 1, hx.cell 2, hx.cell 3, hx.cell 4, hx.cell 5, hx.cell 6, hx.cell 7, hy.cell 0, hy.cell 1, hy.cell 2, hy.cell 3, hy.cell 4, hy.cell 5, hy.cell 6, hy.cell 7⟩
  have HK : Hid (∀ w', Below W.heap.size W w' → Keep w w') := by
    show ∀ w', _
    intro w' hc
    exact Keep.below (hb.trans (hc.mono hb.size))
  have F1 : Hid (∀ w', Below W.heap.size W w' → Calls Try.prog 7 #[.agg #[.int .i64 k, .int .i32 n, .string tx, .string nm, .string ty, .slice A1 l.length n1, .string own, .int .i64 nth]] w' (FewB ((Nd.ex k n tx nm ty (.slice A1 l.length n1) l own nth).size ≤ 400) w')) := by
    show ∀ w', _
    intro w' hc; exact few_expr_any w' _ _ _ _ _ _ l _ _ (Kd.keep (HK.out _ hc) _ hk)
  have F2 : Hid (∀ w', Below W.heap.size W w' → Calls Try.prog 7 #[.agg #[.int .i64 k', .int .i32 n', .string tx', .string nm', .string ty', .slice A2 l'.length n2, .string own', .int .i64 nth']] w' (FewB ((Nd.ex k' n' tx' nm' ty' (.slice A2 l'.length n2) l' own' nth').size ≤ 400) w')) := by
    show ∀ w', _
    intro w' hc; exact few_expr_any w' _ _ _ _ _ _ l' _ _ (Kd.keep (HK.out _ hc) _ hk')
  have F3 : Hid (∀ w', Below W.heap.size W w' → Calls Try.prog 8 #[.slice A3 m.length n3] w' (FewB (sizeL m ≤ 400) w')) := by
    show ∀ w', _
    intro w' hc; exact few_stmts_call w' _ m (hr.keep (HK.out _ hc)) (KdL.keep (HK.out _ hc) _ hm)
  have F4 : Hid (∀ w', Below W.heap.size W w' → Calls Try.prog 8 #[.slice A4 m'.length n4] w' (FewB (sizeL m' ≤ 400) w')) := by
    show ∀ w', _
    intro w' hc; exact few_stmts_call w' _ m' (hr'.keep (HK.out _ hc)) (KdL.keep (HK.out _ hc) _ hm')
  have HT : Hid (∀ w', Calls Try.prog 9 #[] w' fun e w'' => e = .returned (.bool true) ∧ Below w'.heap.size w' w'') := told_any
  have C1 : Hid ((Nd.ex k n tx nm ty (.slice A1 l.length n1) l own nth).size ≤ 400 → ∀ w', Below W.heap.size W w' → (Calls Try.prog 10 #[.agg #[.int .i64 k, .int .i32 n, .string tx, .string nm, .string ty, .slice A1 l.length n1, .string own, .int .i64 nth]] w' fun e w'' => e = .returned (.int .i64 ((Nd.ex k n tx nm ty (.slice A1 l.length n1) l own nth).size : Nat)) ∧ Below w'.heap.size w' w'') ∧ (Calls Try.prog 11 #[.agg #[.int .i64 k, .int .i32 n, .string tx, .string nm, .string ty, .slice A1 l.length n1, .string own, .int .i64 nth]] w' fun e w'' => e = .returned (.int .i64 ((Nd.ex k n tx nm ty (.slice A1 l.length n1) l own nth).size : Nat)) ∧ Below w'.heap.size w' w'')) := by
    show _ → ∀ w', _
    intro hs w' hc
    exact ⟨expr_any w' _ _ _ _ _ _ l _ _ (Kd.keep (HK.out _ hc) _ hk) _ rfl (by omega), ref_expr_of 400 (by omega) (ref_exprs_any 400 (by omega)) w' _ _ _ _ _ _ l _ _ (Kd.keep (HK.out _ hc) _ hk) (by simp only [Nd.size] at hs; omega)⟩
  have C2 : Hid (sizeL m ≤ 400 → ∀ w', Below W.heap.size W w' → (Calls Try.prog 12 #[.slice A3 m.length n3] w' fun e w'' => e = .returned (.int .i64 (sizeL m : Nat)) ∧ Below w'.heap.size w' w'') ∧ (Calls Try.prog 13 #[.slice A3 m.length n3] w' fun e w'' => e = .returned (.int .i64 (sizeL m : Nat)) ∧ Below w'.heap.size w' w'')) := by
    show _ → ∀ w', _
    intro hs w' hc
    exact ⟨stmts_any w' _ m (hr.keep (HK.out _ hc)) (KdL.keep (HK.out _ hc) _ hm) _ rfl (by omega), ref_stmts_any 400 (by omega) w' _ m hs (hr.keep (HK.out _ hc)) (KdL.keep (HK.out _ hc) _ hm)⟩
  have C3 : Hid ((Nd.ex k n tx nm ty (.slice A1 l.length n1) l own nth).size ≤ 400 → (Nd.ex k' n' tx' nm' ty' (.slice A2 l'.length n2) l' own' nth').size ≤ 400 → ∀ w', Below W.heap.size W w' → (Calls Try.prog 14 #[.agg #[.int .i64 k, .int .i32 n, .string tx, .string nm, .string ty, .slice A1 l.length n1, .string own, .int .i64 nth], .agg #[.int .i64 k', .int .i32 n', .string tx', .string nm', .string ty', .slice A2 l'.length n2, .string own', .int .i64 nth']] w' fun e w'' => e = .returned (.bool (sameL [(.ex k n tx nm ty (.slice A1 l.length n1) l own nth)] [(.ex k' n' tx' nm' ty' (.slice A2 l'.length n2) l' own' nth')])) ∧ Below w'.heap.size w' w'') ∧ (Calls Try.prog 15 #[.agg #[.int .i64 k, .int .i32 n, .string tx, .string nm, .string ty, .slice A1 l.length n1, .string own, .int .i64 nth], .agg #[.int .i64 k', .int .i32 n', .string tx', .string nm', .string ty', .slice A2 l'.length n2, .string own', .int .i64 nth']] w' fun e w'' => e = .returned (.bool (sameL [(.ex k n tx nm ty (.slice A1 l.length n1) l own nth)] [(.ex k' n' tx' nm' ty' (.slice A2 l'.length n2) l' own' nth')])) ∧ Below w'.heap.size w' w'')) := by
    show _ → _ → ∀ w', _
    intro hs hs' w' hc
    exact ⟨same_expr_any w' _ _ _ _ _ _ l _ _ _ _ _ _ _ _ l' _ _ (Kd.keep (HK.out _ hc) _ hk) (Kd.keep (HK.out _ hc) _ hk') (by omega) (by omega) _ rfl, ref_same_of 400 (ref_sames_any 400 (by omega)) w' _ _ _ _ _ _ l _ _ _ _ _ _ _ _ l' _ _ (Kd.keep (HK.out _ hc) _ hk) (Kd.keep (HK.out _ hc) _ hk') (by simp only [Nd.size] at hs; omega) _ rfl⟩
  have C4 : Hid (sizeL m ≤ 400 → sizeL m' ≤ 400 → ∀ w', Below W.heap.size W w' → (Calls Try.prog 16 #[.slice A3 m.length n3, .slice A4 m'.length n4] w' fun e w'' => e = .returned (.bool (sameL m m')) ∧ Below w'.heap.size w' w'') ∧ (Calls Try.prog 17 #[.slice A3 m.length n3, .slice A4 m'.length n4] w' fun e w'' => e = .returned (.bool (sameL m m')) ∧ Below w'.heap.size w' w'')) := by
    show _ → _ → ∀ w', _
    intro hs hs' w' hc
    exact ⟨same_stmts_any w' _ _ m m' (hr.keep (HK.out _ hc)) (KdL.keep (HK.out _ hc) _ hm) (hr'.keep (HK.out _ hc)) (KdL.keep (HK.out _ hc) _ hm') (by omega) (by omega) _ rfl, ref_same_stmts_any 400 (by omega) w' _ _ m m' hs (hr.keep (HK.out _ hc)) (KdL.keep (HK.out _ hc) _ hm) (hr'.keep (HK.out _ hc)) (KdL.keep (HK.out _ hc) _ hm')⟩
  obtain ⟨s1, hs1⟩ : ∃ s, (Nd.ex k n tx nm ty (.slice A1 l.length n1) l own nth).size = s := ⟨_, rfl⟩
  obtain ⟨s2, hs2⟩ : ∃ s, (Nd.ex k' n' tx' nm' ty' (.slice A2 l'.length n2) l' own' nth').size = s := ⟨_, rfl⟩
  obtain ⟨s3, hs3⟩ : ∃ s, sizeL m = s := ⟨_, rfl⟩
  obtain ⟨s4, hs4⟩ : ∃ s, sizeL m' = s := ⟨_, rfl⟩
  obtain ⟨q3, hq3⟩ : ∃ q, sameL [(.ex k n tx nm ty (.slice A1 l.length n1) l own nth)] [(.ex k' n' tx' nm' ty' (.slice A2 l'.length n2) l' own' nth')] = q := ⟨_, rfl⟩
  obtain ⟨q4, hq4⟩ : ∃ q, sameL m m' = q := ⟨_, rfl⟩
  rw [hs1] at F1 C1 C3; rw [hs2] at F2 C3; rw [hs3] at F3 C2 C4; rw [hs4] at F4 C4; rw [hq3] at C3; rw [hq4] at C4
  have hB : Below W.heap.size W W := Below.refl _ _
  clear hk hk' hr hm hr' hm' hb hx hy HK hs1 hs2 hs3 hs4 hq3 hq4
  obtain ⟨x0, x1, x2, x3, x4, x5, x6, x7, y0, y1, y2, y3, y4, y5, y6, y7⟩ := HS.out _ hB
  go_enter Try.func3, Try.ntmps3
  go_wp2_with fail
  clear hW
  refine (F1.out _ hB).mono ?_
  rintro e w1 ⟨b1, rfl, g1, hc1⟩
  have hB := hB.trans (hc1.mono hB.size)
  clear hc1 F1
  obtain ⟨x0, x1, x2, x3, x4, x5, x6, x7, y0, y1, y2, y3, y4, y5, y6, y7⟩ := HS.out _ hB
  cases b1
  · go_wp2_with (go_at_call 9; refine (HT.out _).mono ?_; rintro e wt ⟨rfl, hct⟩; have hB := hB.trans (hct.mono hB.size); clear hct)
    go_ret
    exact ⟨rfl, HW.out.trans (hB.mono HW.out.size)⟩
  go_wp2_with fail
  refine (F2.out _ hB).mono ?_
  rintro e w2 ⟨b2, rfl, g2, hc2⟩
  have hB := hB.trans (hc2.mono hB.size)
  clear hc2 F2
  obtain ⟨x0, x1, x2, x3, x4, x5, x6, x7, y0, y1, y2, y3, y4, y5, y6, y7⟩ := HS.out _ hB
  cases b2
  · go_wp2_with (go_at_call 9; refine (HT.out _).mono ?_; rintro e wt ⟨rfl, hct⟩; have hB := hB.trans (hct.mono hB.size); clear hct)
    go_ret
    exact ⟨rfl, HW.out.trans (hB.mono HW.out.size)⟩
  go_wp2_with fail
  refine (F3.out _ hB).mono ?_
  rintro e w3 ⟨b3, rfl, g3, hc3⟩
  have hB := hB.trans (hc3.mono hB.size)
  clear hc3 F3
  obtain ⟨x0, x1, x2, x3, x4, x5, x6, x7, y0, y1, y2, y3, y4, y5, y6, y7⟩ := HS.out _ hB
  cases b3
  · go_wp2_with (go_at_call 9; refine (HT.out _).mono ?_; rintro e wt ⟨rfl, hct⟩; have hB := hB.trans (hct.mono hB.size); clear hct)
    go_ret
    exact ⟨rfl, HW.out.trans (hB.mono HW.out.size)⟩
  go_wp2_with fail
  refine (F4.out _ hB).mono ?_
  rintro e w4 ⟨b4, rfl, g4, hc4⟩
  have hB := hB.trans (hc4.mono hB.size)
  clear hc4 F4
  obtain ⟨x0, x1, x2, x3, x4, x5, x6, x7, y0, y1, y2, y3, y4, y5, y6, y7⟩ := HS.out _ hB
  cases b4
  · go_wp2_with (go_at_call 9; refine (HT.out _).mono ?_; rintro e wt ⟨rfl, hct⟩; have hB := hB.trans (hct.mono hB.size); clear hct)
    go_ret
    exact ⟨rfl, HW.out.trans (hB.mono HW.out.size)⟩
  have D1 := Lib.hid (C1.out (g1 trivial)); have D2 := Lib.hid (C2.out (g3 trivial)); have D3 := Lib.hid (C3.out (g1 trivial) (g2 trivial)); have D4 := Lib.hid (C4.out (g3 trivial) (g4 rfl))
  clear C1 C2 C3 C4 g1 g2 g3 g4
  go_wp2_with fail
  have HZ := Lib.hid hB
  have hB := hB.drew
  clear x0 x1 x2 x3 x4 x5 x6 x7 y0 y1 y2 y3 y4 y5 y6 y7
  go_region_held3 (fun w' => w'.cell? ⟨w.heap.size, 0, none⟩ = some (.int .i64 k) ∧ w'.cell? ⟨w.heap.size, 1, none⟩ = some (.int .i32 n) ∧ w'.cell? ⟨w.heap.size, 2, none⟩ = some (.string tx) ∧ w'.cell? ⟨w.heap.size, 3, none⟩ = some (.string nm) ∧ w'.cell? ⟨w.heap.size, 4, none⟩ = some (.string ty) ∧ w'.cell? ⟨w.heap.size, 5, none⟩ = some (.slice A1 l.length n1) ∧ w'.cell? ⟨w.heap.size, 6, none⟩ = some (.string own) ∧ w'.cell? ⟨w.heap.size, 7, none⟩ = some (.int .i64 nth) ∧ w'.cell? ⟨w.heap.size + 1, 0, none⟩ = some (.int .i64 k') ∧ w'.cell? ⟨w.heap.size + 1, 1, none⟩ = some (.int .i32 n') ∧ w'.cell? ⟨w.heap.size + 1, 2, none⟩ = some (.string tx') ∧ w'.cell? ⟨w.heap.size + 1, 3, none⟩ = some (.string nm') ∧ w'.cell? ⟨w.heap.size + 1, 4, none⟩ = some (.string ty') ∧ w'.cell? ⟨w.heap.size + 1, 5, none⟩ = some (.slice A2 l'.length n2) ∧ w'.cell? ⟨w.heap.size + 1, 6, none⟩ = some (.string own') ∧ w'.cell? ⟨w.heap.size + 1, 7, none⟩ = some (.int .i64 nth'))
    (first | with_reducible exact HS.out _ hB)
    ((first
      | (go_at_call 9; refine (HT.out _).mono ?_; rintro e wn ⟨rfl, hc⟩; have hB := hB.trans (hc.mono hB.size); clear hc)
      | (go_at_call 10; refine ((D1.out _ hB).1).mono ?_; rintro e wn ⟨rfl, hc⟩; have hB := hB.trans (hc.mono hB.size); clear hc)
      | (go_at_call 11; refine ((D1.out _ hB).2).mono ?_; rintro e wn ⟨rfl, hc⟩; have hB := hB.trans (hc.mono hB.size); clear hc)
      | (go_at_call 12; refine ((D2.out _ hB).1).mono ?_; rintro e wn ⟨rfl, hc⟩; have hB := hB.trans (hc.mono hB.size); clear hc)
      | (go_at_call 13; refine ((D2.out _ hB).2).mono ?_; rintro e wn ⟨rfl, hc⟩; have hB := hB.trans (hc.mono hB.size); clear hc)
      | (go_at_call 14; refine ((D3.out _ hB).1).mono ?_; rintro e wn ⟨rfl, hc⟩; have hB := hB.trans (hc.mono hB.size); clear hc)
      | (go_at_call 15; refine ((D3.out _ hB).2).mono ?_; rintro e wn ⟨rfl, hc⟩; have hB := hB.trans (hc.mono hB.size); clear hc)
      | (go_at_call 16; refine ((D4.out _ hB).1).mono ?_; rintro e wn ⟨rfl, hc⟩; have hB := hB.trans (hc.mono hB.size); clear hc)
      | (go_at_call 17; refine ((D4.out _ hB).2).mono ?_; rintro e wn ⟨rfl, hc⟩; have hB := hB.trans (hc.mono hB.size); clear hc)))
  all_goals
    go_wp2_with fail
    go_ret
    exact ⟨ret_bool (by simp), HW.out.trans (hB.mono HW.out.size)⟩
end Go.Proofs.Ytnphimechniplaa
