/- Zeros put behind an empty row. No Go program in this text. -/
import Derived.Test.YtlifpdcpklimcaaGreatDoorEvM3
import Derived.Lib.AppendZerosOnto
set_option linter.unusedSimpArgs false
set_option linter.unusedVariables false
namespace Go.Proofs.YtlifpdcpklimcaaGreatDoor
open Go.RowKit
variable {ρ : Map} {P : Program} {N : Nat} {sl : T AV} {a : Act} {h : T AO} {w : World} {nx : Nat}

def intTy (P : Program) (u : TypeId) : Bool := match P.underlying u with | some (.int _) => true | _ => false
noncomputable def evAppZ (P : Program) (h : T AO) (nx : Nat) (t u : TypeId) (s x : AV) : R :=
  match makeTy P t, s, x with
  | some (e, z, by_, zv), .ns, .i _ k => match natOf k with
    | some n => bif intTy P u && (Nat.ble 1 n && fitB n by_) then
        (h.put nx (.grow (ofA (repl n zv.cells) 0 .nil) (Nat.mul n z) z e)).seq fun h => .ok (.gs nx n) h (Nat.succ nx) else .bad
    | none => .bad
  | _, _, _ => .bad
theorem evAppZ_run (hR : Rel ρ h.get w) {t u ty : TypeId} {s x : AV} {s' x' : Value} (hs : VRel ρ s s') (hx : VRel ρ x x') {r : AV} {h' : T AO} {nx' : Nat} (e : evAppZ P h nx t u s x = .ok r h' nx') (hf : Fr ρ nx nx') :
    ∃ ρ' v w', (Builtin.append_ #[t, u] ty #[s', x']).run P w = .ok v w' ∧ VRel ρ' r v ∧ Stp ρ ρ' h.get h'.get w w' nx nx' := by
  unfold evAppZ at e
  split at e
  · rename_i el n b z k1 x1 hT
    split at e
    · rename_i l hl
      obtain ⟨h1, e⟩ := bif_ok e
      rw [Bool.and_eq_true, Bool.and_eq_true, Nat.ble_eq] at h1
      obtain ⟨hint, hl1, hfit⟩ := h1
      obtain ⟨f1, f2⟩ := fitB_is hfit
      rw [T.seq_eq] at e; cases e
      have e1 := natOf_eq hl; subst e1
      cases hs; cases hx
      have hf' : ρ nx = none := hf nx (Nat.le_refl _) (Nat.lt_succ_self _)
      obtain ⟨kn, htn⟩ : ∃ kn, P.underlying u = some (.int kn) := by
        unfold intTy at hint
        split at hint
        · rename_i kn h; exact ⟨kn, h⟩
        · cases hint
      unfold makeTy at hT
      split at hT
      · rename_i e' n' z' hrow
        split at hT <;> cases hT
        rename_i i hi
        obtain ⟨hu, hn, hz, hzl, hn0⟩ := rowTy_is hrow
        have hsz : i.size = n := by unfold sizeTy at hn; simpa [hi] using hn
        obtain ⟨zr, hzr, hzv⟩ : ∃ zr, i.zero = some zr ∧ VRel ρ z zr := by
          unfold zeroTy at hz
          simp only [hi] at hz
          cases g : i.zero with
          | none => simp [g] at hz
          | some zr =>
            simp only [g] at hz
            exact ⟨zr, rfl, ofV_rel hz⟩
        have hzc := hzv.cells
        have hzs : zr.cells.size = n := by have := hzc.len; rw [hzl] at this; simpa using this.symm
        have hrr := repl_rel hzc l
        have hcells : (Builtin.zeroCells zr.cells l).toList = (List.replicate l zr.cells.toList).flatten := rangeZ zr.cells l (by omega)
        have hns : Builtin.nextslicecap (0 + l) 0 ≤ 2 * (0 + l) := nextslicecap_le (by omega)
        have hcap : Builtin.nextslicecap (0 + l) 0 * i.bytes ≤ 281474976710656 := Nat.le_trans (Nat.mul_le_mul_right _ hns) (by simpa using f1)
        have h48 : l * i.bytes ≤ 281474976710656 := Nat.le_trans (Nat.mul_le_mul_right _ (by omega)) f1
        have hrun := Lib.run_append_grow_zeros (P := P) w t u ty el i zr k1 kn hu htn hi hzr none 0 0 [] (by simp [Builtin.firstCells]) l (by omega) (by omega) (by omega) (by omega) h48 hcap
        refine ⟨_, _, _, hrun, ⟨w.heap.size, grownCap w (0 + l) 0 el, set_self _ _ _, by simp, by have := grownCap_ge w (0 + l) 0 el; omega⟩,
          grow_stp hR hf' el hrr hn0 (by rw [hrr.len, ← hcells]; simp [Builtin.zeroCells, hzs]) (by have := grownCap_ge w (0 + l) 0 el; omega) (Builtin.zeroCells zr.cells (grownCap w (0 + l) 0 el - (0 + l))) (by rw [size_zeroCells, hzs, Nat.sub_mul]; simp) _ rfl rfl rfl ?_⟩
        show w.heap.push _ = _
        rw [← hcells]; simp
      · cases hT
    · cases e
  · cases e
end Go.Proofs.YtlifpdcpklimcaaGreatDoor
