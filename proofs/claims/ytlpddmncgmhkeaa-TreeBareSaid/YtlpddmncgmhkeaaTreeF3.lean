/- Contract of tree.methodsAlike. Written by wip/tools/gen_tree_f.py. -/
import Derived.Test.YtlpddmncgmhkeaaTreeEq
set_option linter.unusedSimpArgs false
set_option linter.unusedVariables false
namespace Go.Proofs.Ytlpddmncgmhkeaa
open Go.RowKit
set_option maxRecDepth 100000 in
set_option maxHeartbeats 4000000 in
theorem methods_alike (w : World) (b o b' o' : Nat) (xs : Bool) (xc : Bool) (xty : ByteArray) (xnm : ByteArray) (xvp : Value) (xps : List Prm) (xv : Value) (xl : List Nd) (xs' : Bool) (xc' : Bool) (xty' : ByteArray) (xnm' : ByteArray) (xvp' : Value) (xps' : List Prm) (xv' : Value) (xl' : List Nd) (hp : Pt.at_ w ⟨b, o, .mt xs xc xty xnm xvp xps xv xl⟩) (hp' : Pt.at_ w ⟨b', o', .mt xs' xc' xty' xnm' xvp' xps' xv' xl'⟩) :
    Calls Try.prog 58 #[.pointer (some ⟨b, o, none⟩), .pointer (some ⟨b', o', none⟩)] w fun e w' => e = .returned (.bool (alikeB (.mt xs xc xty xnm xvp xps xv xl) (.mt xs' xc' xty' xnm' xvp' xps' xv' xl'))) ∧ ∃ m, w' = w.drewN m := by
  have hk := hp.2; rw [Kd] at hk
  have hk' := hp'.2; rw [Kd] at hk'
  obtain ⟨Av, capv, rfl⟩ := (hk.2.2.1).form
  obtain ⟨Av', capv', rfl⟩ := (hk'.2.2.1).form
  have hq := hk.2.1; have hq' := hk'.2.1
  clear hk hk'
  have c0 : w.cell? ⟨b, o, none⟩ = some (.bool xs) := by simpa using hp.cell 0 rfl
  have c0' : w.cell? ⟨b', o', none⟩ = some (.bool xs') := by simpa using hp'.cell 0 rfl
  have c1 : w.cell? ⟨b, o + 1, none⟩ = some (.bool xc) := by simpa using hp.cell 1 rfl
  have c1' : w.cell? ⟨b', o' + 1, none⟩ = some (.bool xc') := by simpa using hp'.cell 1 rfl
  have c2 : w.cell? ⟨b, o + 2, none⟩ = some (.string xty) := by simpa using hp.cell 2 rfl
  have c2' : w.cell? ⟨b', o' + 2, none⟩ = some (.string xty') := by simpa using hp'.cell 2 rfl
  have c3 : w.cell? ⟨b, o + 3, none⟩ = some (.string xnm) := by simpa using hp.cell 3 rfl
  have c3' : w.cell? ⟨b', o' + 3, none⟩ = some (.string xnm') := by simpa using hp'.cell 3 rfl
  have c4 : w.cell? ⟨b, o + 4, none⟩ = some (xvp) := by simpa using hp.cell 4 rfl
  have c4' : w.cell? ⟨b', o' + 4, none⟩ = some (xvp') := by simpa using hp'.cell 4 rfl
  have c5 : w.cell? ⟨b, o + 5, none⟩ = some (.slice Av xl.length capv) := by simpa using hp.cell 5 rfl
  have c5' : w.cell? ⟨b', o' + 5, none⟩ = some (.slice Av' xl'.length capv') := by simpa using hp'.cell 5 rfl
  clear hp hp'
  obtain ⟨q0, e0⟩ : ∃ q, (xs == xs') = q := ⟨_, rfl⟩
  obtain ⟨q1, e1⟩ : ∃ q, (xc == xc') = q := ⟨_, rfl⟩
  obtain ⟨q2, e2⟩ : ∃ q, (xty.toList == xty'.toList) = q := ⟨_, rfl⟩
  obtain ⟨q3, e3⟩ : ∃ q, (xnm.toList == xnm'.toList) = q := ⟨_, rfl⟩
  obtain ⟨q4, e4⟩ : ∃ q, (psB xps xps') = q := ⟨_, rfl⟩
  obtain ⟨q5, e5⟩ : ∃ q, (xl.length == xl'.length) = q := ⟨_, rfl⟩
  simp only [alikeB, e0, e1, e2, e3, e4, e5]
  have d5 : ((xl.length : Int) == xl'.length) = q5 := by rw [← e5, Bool.eq_iff_iff]; simp only [beq_iff_eq]; omega
  have HE : Hid (∀ n, Calls Try.prog 68 #[xvp, xvp'] (w.drewN n) fun e w' => e = .returned (.bool q4) ∧ ∃ m, w' = (w.drewN n).drewN m) := by
    show ∀ n, _
    intro n
    have := equal_any (w.drewN n) xvp xvp' xps xps' (hq.keep fun _ _ h => h) (hq'.keep fun _ _ h => h)
    rw [e4] at this; exact this
  clear e4 hq hq'
  go_enter Try.func58, Try.ntmps58
  go_wp2_with fail
  refine wp_region_quiet_lit (by kernel_rfl) (lexB_of (by kernel_rfl) (by kernel_rfl)) ?_
  try dsimp only [List.append]
  repeat (go_big_quiet_step ((go_at_call 68; exact Calls.quiet_of (HE.out _))))
  cases q0
  · repeat (go_big_quiet_step ((go_at_call 68; exact Calls.quiet_of (HE.out _))))
    refine wpQuiet_nil ?_
    intro _ hw'
    obtain ⟨nq, hw''⟩ := hw'
    subst hw''
    go_wp2_with fail
    go_ret
    exact ⟨by simp, nq, rfl⟩
  repeat (go_big_quiet_step ((go_at_call 68; exact Calls.quiet_of (HE.out _))))
  cases q1
  · repeat (go_big_quiet_step ((go_at_call 68; exact Calls.quiet_of (HE.out _))))
    refine wpQuiet_nil ?_
    intro _ hw'
    obtain ⟨nq, hw''⟩ := hw'
    subst hw''
    go_wp2_with fail
    go_ret
    exact ⟨by simp, nq, rfl⟩
  repeat (go_big_quiet_step ((go_at_call 68; exact Calls.quiet_of (HE.out _))))
  cases q2
  · repeat (go_big_quiet_step ((go_at_call 68; exact Calls.quiet_of (HE.out _))))
    refine wpQuiet_nil ?_
    intro _ hw'
    obtain ⟨nq, hw''⟩ := hw'
    subst hw''
    go_wp2_with fail
    go_ret
    exact ⟨by simp, nq, rfl⟩
  repeat (go_big_quiet_step ((go_at_call 68; exact Calls.quiet_of (HE.out _))))
  cases q3
  · repeat (go_big_quiet_step ((go_at_call 68; exact Calls.quiet_of (HE.out _))))
    refine wpQuiet_nil ?_
    intro _ hw'
    obtain ⟨nq, hw''⟩ := hw'
    subst hw''
    go_wp2_with fail
    go_ret
    exact ⟨by simp, nq, rfl⟩
  repeat (go_big_quiet_step ((go_at_call 68; exact Calls.quiet_of (HE.out _))))
  cases q4
  · repeat (go_big_quiet_step ((go_at_call 68; exact Calls.quiet_of (HE.out _))))
    refine wpQuiet_nil ?_
    intro _ hw'
    obtain ⟨nq, hw''⟩ := hw'
    subst hw''
    go_wp2_with fail
    go_ret
    exact ⟨by simp, nq, rfl⟩
  repeat (go_big_quiet_step ((go_at_call 68; exact Calls.quiet_of (HE.out _))))
  cases q5
  · repeat (go_big_quiet_step ((go_at_call 68; exact Calls.quiet_of (HE.out _))))
    refine wpQuiet_nil ?_
    intro _ hw'
    obtain ⟨nq, hw''⟩ := hw'
    subst hw''
    go_wp2_with fail
    go_ret
    exact ⟨by simp, nq, rfl⟩
  · repeat (go_big_quiet_step ((go_at_call 68; exact Calls.quiet_of (HE.out _))))
    refine wpQuiet_nil ?_
    intro _ hw'
    obtain ⟨nq, hw''⟩ := hw'
    subst hw''
    go_wp2_with fail
    go_ret
    exact ⟨by simp, nq, rfl⟩
end Go.Proofs.Ytlpddmncgmhkeaa
