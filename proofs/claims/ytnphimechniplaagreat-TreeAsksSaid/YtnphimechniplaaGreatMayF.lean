/- The document's mayExpr: what its kinds share. -/
import Derived.Test.YtnphimechniplaaGreatMayL
import Derived.Test.YtnphimechniplaaGreatRefE
import Derived.Test.YtnphimechniplaaGreatRefP
import Derived.Test.YtnphimechniplaaGreatTreeR
set_option linter.unusedSimpArgs false
set_option linter.unusedVariables false
namespace Go.Proofs.YtnphimechniplaaGreat
open Go.RowKit
/-- Those within are as they may be, one deeper. -/
def MayKids (w : World) (l : List Nd) (d : Nat) (dI : Int) : Prop := d ≤ 40 → ∀ x, x ∈ l → ∀ wr, Below w.heap.size w wr → ∃ xk xn xtx xnm xty xA xc xl xown xnth, x = .ex xk xn xtx xnm xty (.slice xA xl.length xc) xl xown xnth ∧
  Calls Tryz.prog 27 #[.agg #[.int .i64 xk, .int .i32 xn, .string xtx, .string xnm, .string xty, .slice xA xl.length xc, .string xown, .int .i64 xnth], .int .i64 (dI + 1)] wr fun e w' => e = .returned (.bool (okT x (d + 1))) ∧ Below wr.heap.size wr w'
theorem may_out {k n : Int} {tx nm ty : ByteArray} {len : Nat} (h : k < 1 ∨ 18 < k) : fitE k n tx nm ty len = false := by
  have : listE k len = false := listE_out k len h
  simp [fitE, this]
theorem okT_ex (k n : Int) (tx nm ty : ByteArray) (v : Value) (l : List Nd) (own : ByteArray) (nth : Int) (d : Nat) : okT (.ex k n tx nm ty v l own nth) d = (decide (d ≤ 40) && (fitE k n tx nm ty l.length && l.all fun y => okT y (d + 1))) := by
  rw [okT_eq]
  rfl
theorem len1 (n : Nat) : decide ((n : Int) = 1) = decide (n = 1) := by rw [decide_eq_decide]; omega
theorem len2 (n : Nat) : decide ((n : Int) = 2) = decide (n = 2) := by rw [decide_eq_decide]; omega
theorem all_take_succ {l : List Nd} {k : Nat} {x : Nd} (h : l[k]? = some x) (f : Nd → Bool) : (l.take (k + 1)).all f = ((l.take k).all f && f x) := by
  rw [List.take_add_one, h]; simp [List.all_append]
theorem all_false {l : List Nd} {k : Nat} {x : Nd} (h : l[k]? = some x) (f : Nd → Bool) (hf : f x = false) : l.all f = false := by
  rw [List.all_eq_false]; exact ⟨x, List.mem_of_getElem? h, by rw [hf]; simp⟩
end Go.Proofs.YtnphimechniplaaGreat
