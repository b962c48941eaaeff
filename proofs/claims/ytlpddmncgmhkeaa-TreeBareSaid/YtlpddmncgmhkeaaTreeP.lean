/- Contracts of tree.fits and tree.step. -/
import Derived.Test.YtlpddmncgmhkeaaTreeO
set_option linter.unusedSimpArgs false
set_option linter.unusedVariables false
namespace Go.Proofs.Ytlpddmncgmhkeaa
open Go.RowKit
def stepN (x y : Nd) : Nat := match x.tag, y.tag with | .cl, _ => 0 | .st, .ex => 0 | _, _ => 1
set_option maxRecDepth 100000 in
set_option maxHeartbeats 4000000 in
theorem step_of (w : World) (p q : Pt) : Calls Try.prog 46 #[ptV p, ptV q] w fun e w' => e = .returned (.int .i64 (stepN p.x q.x)) ∧ w = w' := by
  obtain ⟨b, o, x⟩ := p
  obtain ⟨b', o', y⟩ := q
  cases x <;> cases y
  all_goals simp only [ptV, Nd.tag, Tg.ptr, stepN]
  all_goals go_enter Try.func46, Try.ntmps46
  all_goals go_wp2_with fail
  all_goals (go_ret; exact ⟨rfl, rfl⟩)
set_option maxRecDepth 100000 in
set_option maxHeartbeats 4000000 in
theorem fits_any (w : World) (p : Pt) (hp : p.at_ w) : Calls Try.prog 45 #[ptV p] w fun e w' => e = .returned (.bool (fitsB p.x)) ∧ Below w.heap.size w w' := by
  obtain ⟨b, o, x⟩ := p
  cases x with
  | ex k n tx nm ty v l own nth =>
    have HC := Lib.hid (exprFits_any w b o _ _ _ _ _ _ _ _ _ hp)
    obtain ⟨r, hr⟩ : ∃ r, fitsB (.ex k n tx nm ty v l own nth) = r := ⟨_, rfl⟩
    rw [hr] at HC ⊢
    clear hr hp
    simp only [ptV, Nd.tag, Tg.ptr]
    go_enter Try.func45, Try.ntmps45
    go_wp2_with (go_at_call 61; refine HC.out.mono ?_; clear HC; rintro e w1 ⟨rfl, hb⟩)
    go_ret
    exact ⟨rfl, hb⟩
  | st k n ty nm ve va vb vc le a b' c nth =>
    have HC := Lib.hid (stmtFits_any w b o _ _ _ _ _ _ _ _ _ _ _ _ _ hp)
    obtain ⟨r, hr⟩ : ∃ r, fitsB (.st k n ty nm ve va vb vc le a b' c nth) = r := ⟨_, rfl⟩
    rw [hr] at HC ⊢
    clear hr hp
    simp only [ptV, Nd.tag, Tg.ptr]
    go_enter Try.func45, Try.ntmps45
    go_wp2_with (go_at_call 62; refine HC.out.mono ?_; clear HC; rintro e w1 ⟨rfl, hb⟩)
    go_ret
    exact ⟨rfl, hb⟩
  | mt s c ty nm vp ps v l =>
    have HC := Lib.hid (methodFits_any w b o _ _ _ _ _ _ _ _ hp)
    obtain ⟨r, hr⟩ : ∃ r, fitsB (.mt s c ty nm vp ps v l) = r := ⟨_, rfl⟩
    rw [hr] at HC ⊢
    clear hr hp
    simp only [ptV, Nd.tag, Tg.ptr]
    go_enter Try.func45, Try.ntmps45
    go_wp2_with (go_at_call 63; refine HC.out.mono ?_; clear HC; rintro e w1 ⟨rfl, hb⟩)
    go_ret
    exact ⟨rfl, hb⟩
  | cl nm sp vf vm f m =>
    have HC := Lib.hid (classFits_any w b o _ _ _ _ _ _ hp)
    obtain ⟨r, hr⟩ : ∃ r, fitsB (.cl nm sp vf vm f m) = r := ⟨_, rfl⟩
    rw [hr] at HC ⊢
    clear hr hp
    simp only [ptV, Nd.tag, Tg.ptr]
    go_enter Try.func45, Try.ntmps45
    go_wp2_with (go_at_call 66; refine HC.out.mono ?_; clear HC; rintro e w1 ⟨rfl, hb⟩)
    go_ret
    exact ⟨rfl, hb⟩
  | fd s ty nm v l =>
    have hk := hp.2; rw [Kd] at hk
    obtain ⟨A, cap, rfl⟩ := hk.2.1.form
    have c1 : w.cell? ⟨b, o + 1, none⟩ = some (.string ty) := hp.cell 1 rfl
    have c2 : w.cell? ⟨b, o + 2, none⟩ = some (.string nm) := hp.cell 2 rfl
    have c3 : w.cell? ⟨b, o + 3, none⟩ = some (.slice A l.length cap) := hp.cell 3 rfl
    obtain ⟨n, hn⟩ : ∃ n, l.length = n := ⟨_, rfl⟩
    obtain ⟨q0, e0⟩ : ∃ q, valT ty = q := ⟨_, rfl⟩
    obtain ⟨q1, e1⟩ : ∃ q, nameOk nm = q := ⟨_, rfl⟩
    obtain ⟨q2, e2⟩ : ∃ q, decide (n ≤ 1) = q := ⟨_, rfl⟩
    have HF : fitsB (.fd s ty nm (.slice A l.length cap) l) = (q0 && (q1 && q2)) := by simp only [fitsB, e0, e1, hn, e2]
    rw [hn] at c3
    have g2 : decide ((n : Int) ≤ 1) = q2 := by rw [← e2]; simp only [decide_eq_decide]; omega
    have HV := Lib.hid (type_ok ty hk.1.1 w q0 e0)
    have HNM : Hid (∀ w1, Calls Try.prog 65 #[.string nm] w1 fun e w' => e = .returned (.bool q1) ∧ Below w1.heap.size w1 w') := by
      show ∀ w1, _
      intro w1; exact name_ok nm hk.1.2 w1 q1 e1
    rw [HF]
    clear HF hp hk hn e0 e1 e2
    simp only [ptV, Nd.tag, Tg.ptr]
    cases q0
    · go_enter Try.func45, Try.ntmps45
      go_wp2_with (go_at_call 64; refine HV.out.mono ?_; clear HV; rintro e w1 ⟨rfl, hb1⟩)
      go_ret
      exact ⟨ret_bool (by simp), hb1⟩
    · go_enter Try.func45, Try.ntmps45
      go_wp2_with fail
      refine HV.out.mono ?_
      clear HV
      rintro e w1 ⟨rfl, hb1⟩
      have d2 := (Keep.below hb1) _ _ c2
      have d3 := (Keep.below hb1) _ _ c3
      go_wp2_with fail
      refine (HNM.out _).mono ?_
      clear HNM
      rintro e w2 ⟨rfl, hb2⟩
      have d3 := (Keep.below hb2) _ _ d3
      have hb3 := hb1.trans (hb2.mono hb1.size)
      cases q1
      · go_wp2_with fail
        go_ret
        exact ⟨ret_bool (by simp), hb3⟩
      · cases q2
        · go_wp2_with fail
          go_ret
          exact ⟨ret_bool (by simp), hb3⟩
        · go_wp2_with fail
          go_ret
          exact ⟨ret_bool (by simp), hb3⟩
end Go.Proofs.Ytlpddmncgmhkeaa
