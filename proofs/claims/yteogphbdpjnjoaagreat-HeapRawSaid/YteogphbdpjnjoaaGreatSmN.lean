/- No target in it; its texts are no longer than memory can be. No program. -/
import Derived.Test.YteogphbdpjnjoaaGreatBareN
set_option linter.unusedSimpArgs false
set_option linter.unusedVariables false
namespace Go.Proofs.YteogphbdpjnjoaaGreat
open Go.RowKit
def ntH : Nd → Prop
  | .ex _ _ _ _ _ _ _ own nth => own = ⟨#[]⟩ ∧ nth = 0
  | .st _ _ _ _ _ _ _ _ _ _ _ _ nth => nth = 0
  | _ => True
/-- No target in it. -/
inductive NT : Nd → Prop where
  | mk (x : Nd) (h : ntH x) (k : ∀ y ∈ x.kids, NT y) : NT x
def smH : Nd → Prop
  | .ex _ _ tx nm ty _ _ _ _ => tx.size ≤ 281474976710656 ∧ nm.size ≤ 281474976710656 ∧ ty.size ≤ 281474976710656
  | .st _ _ ty nm _ _ _ _ _ _ _ _ _ => ty.size ≤ 281474976710656 ∧ nm.size ≤ 281474976710656
  | .fd _ ty nm _ _ => ty.size ≤ 281474976710656 ∧ nm.size ≤ 281474976710656
  | .mt _ _ ty nm _ ps _ _ => (ty.size ≤ 281474976710656 ∧ nm.size ≤ 281474976710656) ∧ ps.length ≤ 1000000 ∧ ∀ p ∈ ps, p.1.size ≤ 281474976710656 ∧ p.2.size ≤ 281474976710656
  | .cl nm sp _ _ _ _ => nm.size ≤ 281474976710656 ∧ sp.size ≤ 281474976710656
/-- Its texts are no longer than memory can be. -/
inductive Sm : Nd → Prop where
  | mk (x : Nd) (h : smH x) (k : ∀ y ∈ x.kids, Sm y) : Sm x
theorem Sm.head {x : Nd} (h : Sm x) : smH x := by cases h; assumption
theorem Sm.kid {x : Nd} (h : Sm x) : ∀ y ∈ x.kids, Sm y := by cases h; assumption

end Go.Proofs.YteogphbdpjnjoaaGreat
