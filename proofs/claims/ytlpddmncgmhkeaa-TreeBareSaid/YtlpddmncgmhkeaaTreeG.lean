/- Contract of tree.alike. -/
import Derived.Test.YtlpddmncgmhkeaaTreeF1
import Derived.Test.YtlpddmncgmhkeaaTreeF2
import Derived.Test.YtlpddmncgmhkeaaTreeF3
import Derived.Test.YtlpddmncgmhkeaaTreeF4
import Derived.Test.YtlpddmncgmhkeaaTreeF5
set_option linter.unusedSimpArgs false
set_option linter.unusedVariables false
namespace Go.Proofs.Ytlpddmncgmhkeaa
open Go.RowKit
set_option maxRecDepth 100000 in
set_option maxHeartbeats 4000000 in
theorem alike_any (w : World) (p q : Pt) (hp : p.at_ w) (hq : q.at_ w) : Calls Try.prog 43 #[ptV p, ptV q] w fun e w' => e = .returned (.bool (alikeB p.x q.x)) ∧ ∃ m, w' = w.drewN m := by
  obtain ⟨b, o, x⟩ := p
  obtain ⟨b', o', y⟩ := q
  obtain ⟨r, hr⟩ : ∃ r, alikeB x y = r := ⟨_, rfl⟩
  cases x <;> cases y
  all_goals simp only [ptV, Nd.tag, Tg.ptr]
  all_goals first
    | (have HC := Lib.hid (exprs_alike _ _ _ _ _ _ _ _ _ _ _ _ _ _ _ _ _ _ _ _ _ _ _ hp hq); rw [hr] at HC ⊢; clear hr hp hq)
    | (have HC := Lib.hid (stmts_alike _ _ _ _ _ _ _ _ _ _ _ _ _ _ _ _ _ _ _ _ _ _ _ _ _ _ _ _ _ _ _ hp hq); rw [hr] at HC ⊢; clear hr hp hq)
    | (have HC := Lib.hid (methods_alike _ _ _ _ _ _ _ _ _ _ _ _ _ _ _ _ _ _ _ _ _ hp hq); rw [hr] at HC ⊢; clear hr hp hq)
    | (have HC := Lib.hid (fields_alike _ _ _ _ _ _ _ _ _ _ _ _ _ _ _ hp hq); rw [hr] at HC ⊢; clear hr hp hq)
    | (have HC := Lib.hid (classes_alike _ _ _ _ _ _ _ _ _ _ _ _ _ _ _ _ _ hp hq); rw [hr] at HC ⊢; clear hr hp hq)
    | (have hr' : r = false := hr.symm.trans rfl; rw [hr]; subst hr'; clear hr hp hq)
  all_goals go_enter Try.func43, Try.ntmps43
  all_goals first
    | (go_wp2_with (first | (go_at_call 56; refine HC.out.mono ?_; clear HC; rintro e w1 ⟨rfl, m, rfl⟩) | (go_at_call 57; refine HC.out.mono ?_; clear HC; rintro e w1 ⟨rfl, m, rfl⟩) | (go_at_call 58; refine HC.out.mono ?_; clear HC; rintro e w1 ⟨rfl, m, rfl⟩) | (go_at_call 59; refine HC.out.mono ?_; clear HC; rintro e w1 ⟨rfl, m, rfl⟩) | (go_at_call 60; refine HC.out.mono ?_; clear HC; rintro e w1 ⟨rfl, m, rfl⟩)); go_ret; first | exact ⟨rfl, m, rfl⟩ | exact ⟨rfl, 0, rfl⟩)
end Go.Proofs.Ytlpddmncgmhkeaa
