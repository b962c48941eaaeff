/- changelinglaw3.FewExpr, FewStmts. -/
import Derived.Test.YtnphimechniplaaFew
import Derived.Test.YtnphimechniplaaTold3
set_option linter.unusedSimpArgs false
set_option linter.unusedVariables false
namespace Go.Proofs.Ytnphimechniplaa
open Go.RowKit
/-- It tells whether a thing is few: what that gives. -/
def FewB (p : Prop) (w : World) (e : Ending) (w' : World) : Prop := ∃ b : Bool, e = .returned (.bool b) ∧ (b = true → p) ∧ Below w.heap.size w w'
set_option maxRecDepth 100000 in
set_option maxHeartbeats 1000000 in
theorem few_expr_any (w : World) (k n : Int) (tx nm ty : ByteArray) (nv : Value) (l : List Nd) (own : ByteArray) (nth : Int) (hk : Kd w (.ex k n tx nm ty nv l own nth)) :
    Calls Try.prog 7 #[.agg #[.int .i64 k, .int .i32 n, .string tx, .string nm, .string ty, nv, .string own, .int .i64 nth]] w (FewB ((Nd.ex k n tx nm ty nv l own nth).size ≤ 400) w) := by
  obtain ⟨W, hW⟩ : ∃ W, (w.alloc (.cells #[.int .i64 k, .int .i32 n, .string tx, .string nm, .string ty, nv, .string own, .int .i64 nth] 24)).alloc (.cells #[.int .i64 k, .int .i32 n, .string tx, .string nm, .string ty, nv, .string own, .int .i64 nth] 24) = W := ⟨_, rfl⟩
  have hb : Below w.heap.size w W := by rw [← hW]; exact ((Below.refl _ w).alloc (Nat.le_refl _) _).alloc (by simp) _
  have hx : Bx W (w.heap.size + 1) #[.int .i64 k, .int .i32 n, .string tx, .string nm, .string ty, nv, .string own, .int .i64 nth] 24 := by rw [← hW]; exact Bx.at_new (by simp)
  have hr : Rw W .ex (.slice (some ⟨w.heap.size + 1, 0, none⟩) 1 1) [.ex k n tx nm ty nv l own nth] := rw_bx hx (by simp [cellsN]) (by intro y hy; simp at hy; subst hy; rfl) rfl (by omega)
  have HI := Lib.hid (few_exprs_any _ W _ _ 0 (Nat.le_refl _) hr ⟨Kd.keep (Keep.below hb) _ hk, trivial⟩ (Int.le_refl _) (by omega))
  obtain ⟨A1, n1, rfl⟩ := (by rw [Kd] at hk; exact hk.2.1.form : ∃ A cap, nv = .slice A l.length cap)
  have HB := Lib.hid hb
  clear hk hr hx hb
  go_enter Try.func7, Try.ntmps7
  go_wp2_with (go_at_call 26; refine HI.out.mono ?_; clear HI; rintro e w1 ⟨r, rfl, hr, rfl⟩)
  go_ret
  refine ⟨_, rfl, fun h => ?_, HB.out⟩
  have := (hr.2.2 (of_decide_eq_true h)).1
  simp only [sizeL, Nat.add_zero] at this
  have := of_decide_eq_true h
  omega
set_option maxRecDepth 100000 in
set_option maxHeartbeats 1000000 in
theorem few_stmts_call (w : World) (v : Value) (l : List Nd) (hr : Rw w .st v l) (hk : KdL w l) : Calls Try.prog 8 #[v] w (FewB (sizeL l ≤ 400) w) := by
  have HI := Lib.hid (few_stmts_any _ w v l 0 (Nat.le_refl _) hr hk (Int.le_refl _) (by omega))
  clear hr hk
  go_enter Try.func8, Try.ntmps8
  go_wp2_with (go_at_call 27; refine HI.out.mono ?_; clear HI; rintro e w1 ⟨r, rfl, hr, hb⟩)
  go_ret
  refine ⟨_, rfl, fun h => ?_, hb⟩
  have := (hr.2.2 (of_decide_eq_true h)).1
  have := of_decide_eq_true h
  omega
end Go.Proofs.Ytnphimechniplaa
