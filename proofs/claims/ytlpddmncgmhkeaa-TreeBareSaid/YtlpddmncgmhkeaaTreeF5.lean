/- Contract of tree.classesAlike. Written by wip/tools/gen_tree_f.py. -/
import Derived.Test.YtlpddmncgmhkeaaTreeEq
set_option linter.unusedSimpArgs false
set_option linter.unusedVariables false
namespace Go.Proofs.Ytlpddmncgmhkeaa
open Go.RowKit
set_option maxRecDepth 100000 in
set_option maxHeartbeats 4000000 in
theorem classes_alike (w : World) (b o b' o' : Nat) (xnm : ByteArray) (xsp : ByteArray) (xvf : Value) (xvm : Value) (xf : List Nd) (xm : List Nd) (xnm' : ByteArray) (xsp' : ByteArray) (xvf' : Value) (xvm' : Value) (xf' : List Nd) (xm' : List Nd) (hp : Pt.at_ w ⟨b, o, .cl xnm xsp xvf xvm xf xm⟩) (hp' : Pt.at_ w ⟨b', o', .cl xnm' xsp' xvf' xvm' xf' xm'⟩) :
    Calls Try.prog 60 #[.pointer (some ⟨b, o, none⟩), .pointer (some ⟨b', o', none⟩)] w fun e w' => e = .returned (.bool (alikeB (.cl xnm xsp xvf xvm xf xm) (.cl xnm' xsp' xvf' xvm' xf' xm'))) ∧ ∃ m, w' = w.drewN m := by
  have hk := hp.2; rw [Kd] at hk
  have hk' := hp'.2; rw [Kd] at hk'
  obtain ⟨Avf, capvf, rfl⟩ := (hk.2.1.1).form
  obtain ⟨Avf', capvf', rfl⟩ := (hk'.2.1.1).form
  obtain ⟨Avm, capvm, rfl⟩ := (hk.2.2.1).form
  obtain ⟨Avm', capvm', rfl⟩ := (hk'.2.2.1).form
  clear hk hk'
  have c0 : w.cell? ⟨b, o, none⟩ = some (.string xnm) := by simpa using hp.cell 0 rfl
  have c0' : w.cell? ⟨b', o', none⟩ = some (.string xnm') := by simpa using hp'.cell 0 rfl
  have c1 : w.cell? ⟨b, o + 1, none⟩ = some (.string xsp) := by simpa using hp.cell 1 rfl
  have c1' : w.cell? ⟨b', o' + 1, none⟩ = some (.string xsp') := by simpa using hp'.cell 1 rfl
  have c2 : w.cell? ⟨b, o + 2, none⟩ = some (.slice Avf xf.length capvf) := by simpa using hp.cell 2 rfl
  have c2' : w.cell? ⟨b', o' + 2, none⟩ = some (.slice Avf' xf'.length capvf') := by simpa using hp'.cell 2 rfl
  have c3 : w.cell? ⟨b, o + 3, none⟩ = some (.slice Avm xm.length capvm) := by simpa using hp.cell 3 rfl
  have c3' : w.cell? ⟨b', o' + 3, none⟩ = some (.slice Avm' xm'.length capvm') := by simpa using hp'.cell 3 rfl
  clear hp hp'
  obtain ⟨q0, e0⟩ : ∃ q, (xnm.toList == xnm'.toList) = q := ⟨_, rfl⟩
  obtain ⟨q1, e1⟩ : ∃ q, (xsp.toList == xsp'.toList) = q := ⟨_, rfl⟩
  obtain ⟨q2, e2⟩ : ∃ q, (xf.length == xf'.length) = q := ⟨_, rfl⟩
  obtain ⟨q3, e3⟩ : ∃ q, (xm.length == xm'.length) = q := ⟨_, rfl⟩
  simp only [alikeB, e0, e1, e2, e3]
  have d2 : ((xf.length : Int) == xf'.length) = q2 := by rw [← e2, Bool.eq_iff_iff]; simp only [beq_iff_eq]; omega
  have d3 : ((xm.length : Int) == xm'.length) = q3 := by rw [← e3, Bool.eq_iff_iff]; simp only [beq_iff_eq]; omega
  go_enter Try.func60, Try.ntmps60
  go_wp2_with fail
  refine wp_region_quiet_lit (by kernel_rfl) (lexB_of (by kernel_rfl) (by kernel_rfl)) ?_
  try dsimp only [List.append]
  repeat (go_big_quiet_step (fail))
  cases q0
  · repeat (go_big_quiet_step (fail))
    refine wpQuiet_nil ?_
    intro _ hw'
    obtain ⟨nq, hw''⟩ := hw'
    subst hw''
    go_wp2_with fail
    go_ret
    exact ⟨by simp, nq, rfl⟩
  repeat (go_big_quiet_step (fail))
  cases q1
  · repeat (go_big_quiet_step (fail))
    refine wpQuiet_nil ?_
    intro _ hw'
    obtain ⟨nq, hw''⟩ := hw'
    subst hw''
    go_wp2_with fail
    go_ret
    exact ⟨by simp, nq, rfl⟩
  repeat (go_big_quiet_step (fail))
  cases q2
  · repeat (go_big_quiet_step (fail))
    refine wpQuiet_nil ?_
    intro _ hw'
    obtain ⟨nq, hw''⟩ := hw'
    subst hw''
    go_wp2_with fail
    go_ret
    exact ⟨by simp, nq, rfl⟩
  repeat (go_big_quiet_step (fail))
  cases q3
  · repeat (go_big_quiet_step (fail))
    refine wpQuiet_nil ?_
    intro _ hw'
    obtain ⟨nq, hw''⟩ := hw'
    subst hw''
    go_wp2_with fail
    go_ret
    exact ⟨by simp, nq, rfl⟩
  · repeat (go_big_quiet_step (fail))
    refine wpQuiet_nil ?_
    intro _ hw'
    obtain ⟨nq, hw''⟩ := hw'
    subst hw''
    go_wp2_with fail
    go_ret
    exact ⟨by simp, nq, rfl⟩
end Go.Proofs.Ytlpddmncgmhkeaa
