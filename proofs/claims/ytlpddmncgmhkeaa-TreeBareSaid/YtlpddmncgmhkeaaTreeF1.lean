/- Contract of tree.exprsAlike. Written by wip/tools/gen_tree_f.py. -/
import Derived.Test.YtlpddmncgmhkeaaTreeEq
set_option linter.unusedSimpArgs false
set_option linter.unusedVariables false
namespace Go.Proofs.Ytlpddmncgmhkeaa
open Go.RowKit
set_option maxRecDepth 100000 in
set_option maxHeartbeats 4000000 in
theorem exprs_alike (w : World) (b o b' o' : Nat) (xk : Int) (xn : Int) (xtx : ByteArray) (xnm : ByteArray) (xty : ByteArray) (xv : Value) (xl : List Nd) (xown : ByteArray) (xnth : Int) (xk' : Int) (xn' : Int) (xtx' : ByteArray) (xnm' : ByteArray) (xty' : ByteArray) (xv' : Value) (xl' : List Nd) (xown' : ByteArray) (xnth' : Int) (hp : Pt.at_ w ⟨b, o, .ex xk xn xtx xnm xty xv xl xown xnth⟩) (hp' : Pt.at_ w ⟨b', o', .ex xk' xn' xtx' xnm' xty' xv' xl' xown' xnth'⟩) :
    Calls Try.prog 56 #[.pointer (some ⟨b, o, none⟩), .pointer (some ⟨b', o', none⟩)] w fun e w' => e = .returned (.bool (alikeB (.ex xk xn xtx xnm xty xv xl xown xnth) (.ex xk' xn' xtx' xnm' xty' xv' xl' xown' xnth'))) ∧ ∃ m, w' = w.drewN m := by
  have hk := hp.2; rw [Kd] at hk
  have hk' := hp'.2; rw [Kd] at hk'
  obtain ⟨Av, capv, rfl⟩ := (hk.2.1).form
  obtain ⟨Av', capv', rfl⟩ := (hk'.2.1).form
  clear hk hk'
  have c0 : w.cell? ⟨b, o, none⟩ = some (.int .i64 xk) := by simpa using hp.cell 0 rfl
  have c0' : w.cell? ⟨b', o', none⟩ = some (.int .i64 xk') := by simpa using hp'.cell 0 rfl
  have c1 : w.cell? ⟨b, o + 1, none⟩ = some (.int .i32 xn) := by simpa using hp.cell 1 rfl
  have c1' : w.cell? ⟨b', o' + 1, none⟩ = some (.int .i32 xn') := by simpa using hp'.cell 1 rfl
  have c2 : w.cell? ⟨b, o + 2, none⟩ = some (.string xtx) := by simpa using hp.cell 2 rfl
  have c2' : w.cell? ⟨b', o' + 2, none⟩ = some (.string xtx') := by simpa using hp'.cell 2 rfl
  have c3 : w.cell? ⟨b, o + 3, none⟩ = some (.string xnm) := by simpa using hp.cell 3 rfl
  have c3' : w.cell? ⟨b', o' + 3, none⟩ = some (.string xnm') := by simpa using hp'.cell 3 rfl
  have c4 : w.cell? ⟨b, o + 4, none⟩ = some (.string xty) := by simpa using hp.cell 4 rfl
  have c4' : w.cell? ⟨b', o' + 4, none⟩ = some (.string xty') := by simpa using hp'.cell 4 rfl
  have c5 : w.cell? ⟨b, o + 5, none⟩ = some (.slice Av xl.length capv) := by simpa using hp.cell 5 rfl
  have c5' : w.cell? ⟨b', o' + 5, none⟩ = some (.slice Av' xl'.length capv') := by simpa using hp'.cell 5 rfl
  clear hp hp'
  obtain ⟨q0, e0⟩ : ∃ q, (xk == xk') = q := ⟨_, rfl⟩
  obtain ⟨q1, e1⟩ : ∃ q, (xn == xn') = q := ⟨_, rfl⟩
  obtain ⟨q2, e2⟩ : ∃ q, (xtx.toList == xtx'.toList) = q := ⟨_, rfl⟩
  obtain ⟨q3, e3⟩ : ∃ q, (xnm.toList == xnm'.toList) = q := ⟨_, rfl⟩
  obtain ⟨q4, e4⟩ : ∃ q, (xty.toList == xty'.toList) = q := ⟨_, rfl⟩
  obtain ⟨q5, e5⟩ : ∃ q, (xl.length == xl'.length) = q := ⟨_, rfl⟩
  simp only [alikeB, e0, e1, e2, e3, e4, e5]
  have d5 : ((xl.length : Int) == xl'.length) = q5 := by rw [← e5, Bool.eq_iff_iff]; simp only [beq_iff_eq]; omega
  go_enter Try.func56, Try.ntmps56
  go_wp2_with fail
  refine wp_region_quiet_lit (by kernel_rfl) (lexB_of (by kernel_rfl) (by kernel_rfl)) ?_
  try dsimp only [List.append]
  repeat (go_big_quiet_step (fail))
  cases q0
  · repeat (go_big_quiet_step (fail))
    refine wpQuiet_nil ?_
    intro _ hw'
    obtain ⟨nq, hw''⟩ := hw'
    subst hw''
    go_wp2_with fail
    go_ret
    exact ⟨by simp, nq, rfl⟩
  repeat (go_big_quiet_step (fail))
  cases q1
  · repeat (go_big_quiet_step (fail))
    refine wpQuiet_nil ?_
    intro _ hw'
    obtain ⟨nq, hw''⟩ := hw'
    subst hw''
    go_wp2_with fail
    go_ret
    exact ⟨by simp, nq, rfl⟩
  repeat (go_big_quiet_step (fail))
  cases q2
  · repeat (go_big_quiet_step (fail))
    refine wpQuiet_nil ?_
    intro _ hw'
    obtain ⟨nq, hw''⟩ := hw'
    subst hw''
    go_wp2_with fail
    go_ret
    exact ⟨by simp, nq, rfl⟩
  repeat (go_big_quiet_step (fail))
  cases q3
  · repeat (go_big_quiet_step (fail))
    refine wpQuiet_nil ?_
    intro _ hw'
    obtain ⟨nq, hw''⟩ := hw'
    subst hw''
    go_wp2_with fail
    go_ret
    exact ⟨by simp, nq, rfl⟩
  repeat (go_big_quiet_step (fail))
  cases q4
  · repeat (go_big_quiet_step (fail))
    refine wpQuiet_nil ?_
    intro _ hw'
    obtain ⟨nq, hw''⟩ := hw'
    subst hw''
    go_wp2_with fail
    go_ret
    exact ⟨by simp, nq, rfl⟩
  repeat (go_big_quiet_step (fail))
  cases q5
  · repeat (go_big_quiet_step (fail))
    refine wpQuiet_nil ?_
    intro _ hw'
    obtain ⟨nq, hw''⟩ := hw'
    subst hw''
    go_wp2_with fail
    go_ret
    exact ⟨by simp, nq, rfl⟩
  · repeat (go_big_quiet_step (fail))
    refine wpQuiet_nil ?_
    intro _ hw'
    obtain ⟨nq, hw''⟩ := hw'
    subst hw''
    go_wp2_with fail
    go_ret
    exact ⟨by simp, nq, rfl⟩
end Go.Proofs.Ytlpddmncgmhkeaa
