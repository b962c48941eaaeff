/- Contract of tree.fieldsAlike. Written by wip/tools/gen_tree_f.py. -/
import Derived.Test.YtlpddmncgmhkeaaTreeEq
set_option linter.unusedSimpArgs false
set_option linter.unusedVariables false
namespace Go.Proofs.Ytlpddmncgmhkeaa
open Go.RowKit
set_option maxRecDepth 100000 in
set_option maxHeartbeats 4000000 in
theorem fields_alike (w : World) (b o b' o' : Nat) (xs : Bool) (xty : ByteArray) (xnm : ByteArray) (xv : Value) (xl : List Nd) (xs' : Bool) (xty' : ByteArray) (xnm' : ByteArray) (xv' : Value) (xl' : List Nd) (hp : Pt.at_ w ⟨b, o, .fd xs xty xnm xv xl⟩) (hp' : Pt.at_ w ⟨b', o', .fd xs' xty' xnm' xv' xl'⟩) :
    Calls Try.prog 59 #[.pointer (some ⟨b, o, none⟩), .pointer (some ⟨b', o', none⟩)] w fun e w' => e = .returned (.bool (alikeB (.fd xs xty xnm xv xl) (.fd xs' xty' xnm' xv' xl'))) ∧ ∃ m, w' = w.drewN m := by
  have hk := hp.2; rw [Kd] at hk
  have hk' := hp'.2; rw [Kd] at hk'
  obtain ⟨Av, capv, rfl⟩ := (hk.2.1).form
  obtain ⟨Av', capv', rfl⟩ := (hk'.2.1).form
  clear hk hk'
  have c0 : w.cell? ⟨b, o, none⟩ = some (.bool xs) := by simpa using hp.cell 0 rfl
  have c0' : w.cell? ⟨b', o', none⟩ = some (.bool xs') := by simpa using hp'.cell 0 rfl
  have c1 : w.cell? ⟨b, o + 1, none⟩ = some (.string xty) := by simpa using hp.cell 1 rfl
  have c1' : w.cell? ⟨b', o' + 1, none⟩ = some (.string xty') := by simpa using hp'.cell 1 rfl
  have c2 : w.cell? ⟨b, o + 2, none⟩ = some (.string xnm) := by simpa using hp.cell 2 rfl
  have c2' : w.cell? ⟨b', o' + 2, none⟩ = some (.string xnm') := by simpa using hp'.cell 2 rfl
  have c3 : w.cell? ⟨b, o + 3, none⟩ = some (.slice Av xl.length capv) := by simpa using hp.cell 3 rfl
  have c3' : w.cell? ⟨b', o' + 3, none⟩ = some (.slice Av' xl'.length capv') := by simpa using hp'.cell 3 rfl
  clear hp hp'
  obtain ⟨q0, e0⟩ : ∃ q, (xs == xs') = q := ⟨_, rfl⟩
  obtain ⟨q1, e1⟩ : ∃ q, (xty.toList == xty'.toList) = q := ⟨_, rfl⟩
  obtain ⟨q2, e2⟩ : ∃ q, (xnm.toList == xnm'.toList) = q := ⟨_, rfl⟩
  obtain ⟨q3, e3⟩ : ∃ q, (xl.length == xl'.length) = q := ⟨_, rfl⟩
  simp only [alikeB, e0, e1, e2, e3]
  have d3 : ((xl.length : Int) == xl'.length) = q3 := by rw [← e3, Bool.eq_iff_iff]; simp only [beq_iff_eq]; omega
  go_enter Try.func59, Try.ntmps59
  go_wp2_with fail
  refine wp_region_quiet_lit (by kernel_rfl) (lexB_of (by kernel_rfl) (by kernel_rfl)) ?_
  try dsimp only [List.append]
  repeat (go_big_quiet_step (fail))
  cases q0
  · repeat (go_big_quiet_step (fail))
    refine wpQuiet_nil ?_
    intro _ hw'
    obtain ⟨nq, hw''⟩ := hw'
    subst hw''
    go_wp2_with fail
    go_ret
    exact ⟨by simp, nq, rfl⟩
  repeat (go_big_quiet_step (fail))
  cases q1
  · repeat (go_big_quiet_step (fail))
    refine wpQuiet_nil ?_
    intro _ hw'
    obtain ⟨nq, hw''⟩ := hw'
    subst hw''
    go_wp2_with fail
    go_ret
    exact ⟨by simp, nq, rfl⟩
  repeat (go_big_quiet_step (fail))
  cases q2
  · repeat (go_big_quiet_step (fail))
    refine wpQuiet_nil ?_
    intro _ hw'
    obtain ⟨nq, hw''⟩ := hw'
    subst hw''
    go_wp2_with fail
    go_ret
    exact ⟨by simp, nq, rfl⟩
  repeat (go_big_quiet_step (fail))
  cases q3
  · repeat (go_big_quiet_step (fail))
    refine wpQuiet_nil ?_
    intro _ hw'
    obtain ⟨nq, hw''⟩ := hw'
    subst hw''
    go_wp2_with fail
    go_ret
    exact ⟨by simp, nq, rfl⟩
  · repeat (go_big_quiet_step (fail))
    refine wpQuiet_nil ?_
    intro _ hw'
    obtain ⟨nq, hw''⟩ := hw'
    subst hw''
    go_wp2_with fail
    go_ret
    exact ⟨by simp, nq, rfl⟩
end Go.Proofs.Ytlpddmncgmhkeaa
