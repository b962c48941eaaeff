/- A closed run, run quickly: which functions are entered; numbers by their remainders; a call's answer. No Go program in this text. -/
import Derived.Test.YtmhnnfponloihaaDoorFvE
import Derived.Laws.Externs
import Derived.Lib.Builder
set_option linter.unusedSimpArgs false
set_option linter.unusedVariables false
namespace Go.Proofs.YtmhnnfponloihaaDoor
open Go.RowKit
variable {P : Program}

theorem okG_of {M n : Nat} (hM : Nat.ble (Nat.succ M) (Nat.pow 2 n) = true) (h : allF (fun g => or2 (onB (tb M g) false true) (fnOk P g)) (List.range n) = true) : ∀ g, tb M g = true → fnOk P g = true := by
  intro g hg
  rw [allF_eq, List.all_eq_true] at h
  have hM' : M < 2 ^ n := by rw [Nat.ble_eq] at hM; exact hM
  by_cases hlt : g < n
  · have := h g (List.mem_range.2 hlt)
    rw [hg] at this; exact this
  · rw [tb_eq, Nat.testBit_lt_two_pow (Nat.lt_of_lt_of_le hM' (Nat.pow_le_pow_right (by omega) (by omega)))] at hg
    cases hg
theorem rem_rel (ρ : Map) (z : Int) {m : Nat} (hm : 0 < m) : ∃ i, i < m ∧ VRel ρ (.r false m i) (.int .i64 z) := by
  have h1 : 0 ≤ z % 18446744073709551616 % (m : Int) := Int.emod_nonneg _ (by omega)
  have h2 : z % 18446744073709551616 % (m : Int) < (m : Int) := Int.emod_lt_of_pos _ (by omega)
  refine ⟨(z % 18446744073709551616 % (m : Int)).toNat, by omega, z, rfl, (fun h => nomatch h), ?_⟩
  omega
/-- What lies outside: a function that hands back what it is given. -/
noncomputable def sameX (f0 : FuncId) : Caller := fun t l h nx => match t, l with | .fn f, .cons x .nil => bif Nat.beq f f0 then .ok x h nx else .bad | _, _ => .bad
theorem sameX_ok {f0 : FuncId} {fn : Func} (hf : P.funcs[f0]? = some fn) (h1 : (fn.name == "runtime.NumGoroutine") = false) (h2 : fn.body.isNone = true) (h3 : Extern.findNext fn = none) (h4 : Extern.find fn = some Extern.AbiNoEscape.same) : ExtOk P (sameX f0) := by
  intro f l h nx v h' nx' e
  unfold sameX at e
  split at e
  · rename_i t' l' g x ht
    cases ht
    obtain ⟨h5, e2⟩ := bif_ok e
    rw [Nat.beq_eq] at h5
    subst h5
    cases e2
    refine ⟨Nat.le_refl _, fun ρ w m hR hl hf' => ?_⟩
    obtain ⟨u, r, rfl, hu, hr⟩ := hl
    simp only [VsRel] at hr; subst hr
    exact Does.pure hR (by rw [run_callFunc_extern hf h1 h2 h3 h4]; rfl) hu
  · cases e
theorem ext_none : ExtOk P fun _ _ _ _ => .bad := fun f l h nx v h' nx' e => by cases e
theorem none_ok : CallOk P fun _ _ _ _ => .bad := known_none
theorem answer {X K : Caller} {G : FuncId → Bool} (hG : ∀ g, G g = true → fnOk P g = true) (hm : P.follows .mixedOrders = true) (hX : ExtOk P X) (hK : CallOk P K) {n : Nat} {f : FuncId} {l : AVs} {m : List Value} (hl : VsRel none_ l m) (h : isTF (fvC P X G K n (.fn f) l .nil 0) = true) (w : World) :
    Calls P f m.toArray w fun e w' => e = .returned (.bool true) ∧ Below w.heap.size w w' := by
  obtain ⟨h', nx', e⟩ := isTF_is h
  refine callsIn_wide.1 (CallsIn.mono (fvC_call hG hm hX hK e hl Fence.wide 0 (fun _ => trivial) rfl rfl w) ?_)
  rintro e1 w' ⟨ρ', u, s, rfl, hv⟩
  cases hv
  exact ⟨rfl, s.below (Nat.le_refl _) fun id o b C e1 => (nilH_get e1).elim⟩
end Go.Proofs.YtmhnnfponloihaaDoor
