/- Contract of tree.stmtsAlike. Written by wip/tools/gen_tree_f.py. -/
import Derived.Test.YtlpddmncgmhkeaaTreeEq
set_option linter.unusedSimpArgs false
set_option linter.unusedVariables false
namespace Go.Proofs.Ytlpddmncgmhkeaa
open Go.RowKit
set_option maxRecDepth 100000 in
set_option maxHeartbeats 4000000 in
theorem stmts_alike (w : World) (b o b' o' : Nat) (xk : Int) (xn : Int) (xty : ByteArray) (xnm : ByteArray) (xve : Value) (xva : Value) (xvb : Value) (xvc : Value) (xe : List Nd) (xa : List Nd) (xb : List Nd) (xc : List Nd) (xnth : Int) (xk' : Int) (xn' : Int) (xty' : ByteArray) (xnm' : ByteArray) (xve' : Value) (xva' : Value) (xvb' : Value) (xvc' : Value) (xe' : List Nd) (xa' : List Nd) (xb' : List Nd) (xc' : List Nd) (xnth' : Int) (hp : Pt.at_ w ⟨b, o, .st xk xn xty xnm xve xva xvb xvc xe xa xb xc xnth⟩) (hp' : Pt.at_ w ⟨b', o', .st xk' xn' xty' xnm' xve' xva' xvb' xvc' xe' xa' xb' xc' xnth'⟩) :
    Calls Try.prog 57 #[.pointer (some ⟨b, o, none⟩), .pointer (some ⟨b', o', none⟩)] w fun e w' => e = .returned (.bool (alikeB (.st xk xn xty xnm xve xva xvb xvc xe xa xb xc xnth) (.st xk' xn' xty' xnm' xve' xva' xvb' xvc' xe' xa' xb' xc' xnth'))) ∧ ∃ m, w' = w.drewN m := by
  have hk := hp.2; rw [Kd] at hk
  have hk' := hp'.2; rw [Kd] at hk'
  obtain ⟨Ave, capve, rfl⟩ := (hk.2.1.1).form
  obtain ⟨Ave', capve', rfl⟩ := (hk'.2.1.1).form
  obtain ⟨Ava, capva, rfl⟩ := (hk.2.2.1.1).form
  obtain ⟨Ava', capva', rfl⟩ := (hk'.2.2.1.1).form
  obtain ⟨Avb, capvb, rfl⟩ := (hk.2.2.2.1.1).form
  obtain ⟨Avb', capvb', rfl⟩ := (hk'.2.2.2.1.1).form
  obtain ⟨Avc, capvc, rfl⟩ := (hk.2.2.2.2.1).form
  obtain ⟨Avc', capvc', rfl⟩ := (hk'.2.2.2.2.1).form
  clear hk hk'
  have c0 : w.cell? ⟨b, o, none⟩ = some (.int .i64 xk) := by simpa using hp.cell 0 rfl
  have c0' : w.cell? ⟨b', o', none⟩ = some (.int .i64 xk') := by simpa using hp'.cell 0 rfl
  have c1 : w.cell? ⟨b, o + 1, none⟩ = some (.int .i32 xn) := by simpa using hp.cell 1 rfl
  have c1' : w.cell? ⟨b', o' + 1, none⟩ = some (.int .i32 xn') := by simpa using hp'.cell 1 rfl
  have c2 : w.cell? ⟨b, o + 2, none⟩ = some (.string xty) := by simpa using hp.cell 2 rfl
  have c2' : w.cell? ⟨b', o' + 2, none⟩ = some (.string xty') := by simpa using hp'.cell 2 rfl
  have c3 : w.cell? ⟨b, o + 3, none⟩ = some (.string xnm) := by simpa using hp.cell 3 rfl
  have c3' : w.cell? ⟨b', o' + 3, none⟩ = some (.string xnm') := by simpa using hp'.cell 3 rfl
  have c4 : w.cell? ⟨b, o + 4, none⟩ = some (.slice Ave xe.length capve) := by simpa using hp.cell 4 rfl
  have c4' : w.cell? ⟨b', o' + 4, none⟩ = some (.slice Ave' xe'.length capve') := by simpa using hp'.cell 4 rfl
  have c5 : w.cell? ⟨b, o + 5, none⟩ = some (.slice Ava xa.length capva) := by simpa using hp.cell 5 rfl
  have c5' : w.cell? ⟨b', o' + 5, none⟩ = some (.slice Ava' xa'.length capva') := by simpa using hp'.cell 5 rfl
  have c6 : w.cell? ⟨b, o + 6, none⟩ = some (.slice Avb xb.length capvb) := by simpa using hp.cell 6 rfl
  have c6' : w.cell? ⟨b', o' + 6, none⟩ = some (.slice Avb' xb'.length capvb') := by simpa using hp'.cell 6 rfl
  have c7 : w.cell? ⟨b, o + 7, none⟩ = some (.slice Avc xc.length capvc) := by simpa using hp.cell 7 rfl
  have c7' : w.cell? ⟨b', o' + 7, none⟩ = some (.slice Avc' xc'.length capvc') := by simpa using hp'.cell 7 rfl
  clear hp hp'
  obtain ⟨q0, e0⟩ : ∃ q, (xk == xk') = q := ⟨_, rfl⟩
  obtain ⟨q1, e1⟩ : ∃ q, (xn == xn') = q := ⟨_, rfl⟩
  obtain ⟨q2, e2⟩ : ∃ q, (xty.toList == xty'.toList) = q := ⟨_, rfl⟩
  obtain ⟨q3, e3⟩ : ∃ q, (xnm.toList == xnm'.toList) = q := ⟨_, rfl⟩
  obtain ⟨q4, e4⟩ : ∃ q, (xe.length == xe'.length) = q := ⟨_, rfl⟩
  obtain ⟨q5, e5⟩ : ∃ q, (xa.length == xa'.length) = q := ⟨_, rfl⟩
  obtain ⟨q6, e6⟩ : ∃ q, (xb.length == xb'.length) = q := ⟨_, rfl⟩
  obtain ⟨q7, e7⟩ : ∃ q, (xc.length == xc'.length) = q := ⟨_, rfl⟩
  simp only [alikeB, e0, e1, e2, e3, e4, e5, e6, e7]
  have d4 : ((xe.length : Int) == xe'.length) = q4 := by rw [← e4, Bool.eq_iff_iff]; simp only [beq_iff_eq]; omega
  have d5 : ((xa.length : Int) == xa'.length) = q5 := by rw [← e5, Bool.eq_iff_iff]; simp only [beq_iff_eq]; omega
  have d6 : ((xb.length : Int) == xb'.length) = q6 := by rw [← e6, Bool.eq_iff_iff]; simp only [beq_iff_eq]; omega
  have d7 : ((xc.length : Int) == xc'.length) = q7 := by rw [← e7, Bool.eq_iff_iff]; simp only [beq_iff_eq]; omega
  go_enter Try.func57, Try.ntmps57
  go_wp2_with fail
  refine wp_region_quiet_lit (by kernel_rfl) (lexB_of (by kernel_rfl) (by kernel_rfl)) ?_
  try dsimp only [List.append]
  repeat (go_big_quiet_step (fail))
  cases q0
  · repeat (go_big_quiet_step (fail))
    refine wpQuiet_nil ?_
    intro _ hw'
    obtain ⟨nq, hw''⟩ := hw'
    subst hw''
    go_wp2_with fail
    go_ret
    exact ⟨by simp, nq, rfl⟩
  repeat (go_big_quiet_step (fail))
  cases q1
  · repeat (go_big_quiet_step (fail))
    refine wpQuiet_nil ?_
    intro _ hw'
    obtain ⟨nq, hw''⟩ := hw'
    subst hw''
    go_wp2_with fail
    go_ret
    exact ⟨by simp, nq, rfl⟩
  repeat (go_big_quiet_step (fail))
  cases q2
  · repeat (go_big_quiet_step (fail))
    refine wpQuiet_nil ?_
    intro _ hw'
    obtain ⟨nq, hw''⟩ := hw'
    subst hw''
    go_wp2_with fail
    go_ret
    exact ⟨by simp, nq, rfl⟩
  repeat (go_big_quiet_step (fail))
  cases q3
  · repeat (go_big_quiet_step (fail))
    refine wpQuiet_nil ?_
    intro _ hw'
    obtain ⟨nq, hw''⟩ := hw'
    subst hw''
    go_wp2_with fail
    go_ret
    exact ⟨by simp, nq, rfl⟩
  repeat (go_big_quiet_step (fail))
  cases q4
  · repeat (go_big_quiet_step (fail))
    refine wpQuiet_nil ?_
    intro _ hw'
    obtain ⟨nq, hw''⟩ := hw'
    subst hw''
    go_wp2_with fail
    go_ret
    exact ⟨by simp, nq, rfl⟩
  repeat (go_big_quiet_step (fail))
  cases q5
  · repeat (go_big_quiet_step (fail))
    refine wpQuiet_nil ?_
    intro _ hw'
    obtain ⟨nq, hw''⟩ := hw'
    subst hw''
    go_wp2_with fail
    go_ret
    exact ⟨by simp, nq, rfl⟩
  repeat (go_big_quiet_step (fail))
  cases q6
  · repeat (go_big_quiet_step (fail))
    refine wpQuiet_nil ?_
    intro _ hw'
    obtain ⟨nq, hw''⟩ := hw'
    subst hw''
    go_wp2_with fail
    go_ret
    exact ⟨by simp, nq, rfl⟩
  repeat (go_big_quiet_step (fail))
  cases q7
  · repeat (go_big_quiet_step (fail))
    refine wpQuiet_nil ?_
    intro _ hw'
    obtain ⟨nq, hw''⟩ := hw'
    subst hw''
    go_wp2_with fail
    go_ret
    exact ⟨by simp, nq, rfl⟩
  · repeat (go_big_quiet_step (fail))
    refine wpQuiet_nil ?_
    intro _ hw'
    obtain ⟨nq, hw''⟩ := hw'
    subst hw''
    go_wp2_with fail
    go_ret
    exact ⟨by simp, nq, rfl⟩
end Go.Proofs.Ytlpddmncgmhkeaa
