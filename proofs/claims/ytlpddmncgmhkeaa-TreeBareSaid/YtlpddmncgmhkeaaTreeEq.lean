/- What is alike, what is the same. Written by wip/tools/gen_tree_f.py. -/
import Derived.Test.YtlpddmncgmhkeaaTreeE
import Derived.Test.YtlpddmncgmhkeaaLex
set_option linter.unusedSimpArgs false
set_option linter.unusedVariables false
namespace Go.Proofs.Ytlpddmncgmhkeaa
open Go.RowKit
/-- Two nodes are alike but for what stands within. -/
def alikeB : Nd → Nd → Bool
  | .ex xk xn xtx xnm xty _ xl _ _, .ex xk' xn' xtx' xnm' xty' _ xl' _ _ => xk == xk' && xn == xn' && xtx.toList == xtx'.toList && xnm.toList == xnm'.toList && xty.toList == xty'.toList && xl.length == xl'.length
  | .st xk xn xty xnm _ _ _ _ xe xa xb xc _, .st xk' xn' xty' xnm' _ _ _ _ xe' xa' xb' xc' _ => xk == xk' && xn == xn' && xty.toList == xty'.toList && xnm.toList == xnm'.toList && xe.length == xe'.length && xa.length == xa'.length && xb.length == xb'.length && xc.length == xc'.length
  | .mt xs xc xty xnm _ xps _ xl, .mt xs' xc' xty' xnm' _ xps' _ xl' => xs == xs' && xc == xc' && xty.toList == xty'.toList && xnm.toList == xnm'.toList && psB xps xps' && xl.length == xl'.length
  | .fd xs xty xnm _ xl, .fd xs' xty' xnm' _ xl' => xs == xs' && xty.toList == xty'.toList && xnm.toList == xnm'.toList && xl.length == xl'.length
  | .cl xnm xsp _ _ xf xm, .cl xnm' xsp' _ _ xf' xm' => xnm.toList == xnm'.toList && xsp.toList == xsp'.toList && xf.length == xf'.length && xm.length == xm'.length
  | _, _ => false
theorem alike_tag {x y : Nd} (h : alikeB x y = true) : x.tag = y.tag := by
  cases x <;> cases y <;> first | rfl | (simp [alikeB] at h)
theorem alike_kids {x y : Nd} (h : alikeB x y = true) : x.kids.length = y.kids.length := by
  cases x <;> cases y <;> simp [alikeB] at h <;> simp [Nd.kids] <;> omega
end Go.Proofs.Ytlpddmncgmhkeaa
