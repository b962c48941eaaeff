/- Zeros put behind an empty row. No Go program in this text. -/
import Derived.Test.YtmhnnfponloihaaDoorEvM3
import Derived.Lib.AppendZerosOnto
set_option linter.unusedSimpArgs false
set_option linter.unusedVariables false
namespace Go.Proofs.YtmhnnfponloihaaDoor
open Go.RowKit
variable {ρ : Map} {P : Program} {N : Nat} {sl : T AV} {a : Act} {h : T AO} {w : World} {nx : Nat}

def intTy (P : Program) (u : TypeId) : Bool := match P.underlying u with | some (.int _) => true | _ => false
noncomputable def evAppZ (P : Program) (h : T AO) (nx : Nat) (t u : TypeId) (s x : AV) : R :=
  match makeTy P t, s, x with
  | some (e, z, by_, zv), .ns, .i _ k => match natOf k with
    | some n => bif intTy P u && (Nat.ble 1 n && fitB n by_) then
        (h.put nx (.grow (ofA (repl n zv.cells) 0 .nil) (Nat.mul n z) z e)).seq fun h => .ok (.gs nx n) h (Nat.succ nx) else .bad
    | none => .bad
  | some (e, z, by_, zv), .sl id off len cap, .i _ k => match natOf k, h.get id with
    | some n, some o => match o.tr with
      | some tr => bif intTy P u && (Nat.ble 1 n && (Nat.ble (Nat.succ cap) (Nat.add len n) && fitB (Nat.add len n) by_)) then
          match readN tr (Nat.mul len z) off with
          | some old => (h.put nx (.grow (ofA (old.app (repl n zv.cells)) 0 .nil) (Nat.mul (Nat.add len n) z) z e)).seq fun h => .ok (.gs nx (Nat.add len n)) h (Nat.succ nx)
          | none => .bad
        else .bad
      | none => .bad
    | _, _ => .bad
  | _, _, _ => .bad
theorem evAppZ_run (hR : Rel ρ h.get w) {t u ty : TypeId} {s x : AV} {s' x' : Value} (hs : VRel ρ s s') (hx : VRel ρ x x') {r : AV} {h' : T AO} {nx' : Nat} (e : evAppZ P h nx t u s x = .ok r h' nx') (hf : Fr ρ nx nx') :
    ∃ ρ' v w', (Builtin.append_ #[t, u] ty #[s', x']).run P w = .ok v w' ∧ VRel ρ' r v ∧ Stp ρ ρ' h.get h'.get w w' nx nx' := by
  unfold evAppZ at e
  split at e
  · rename_i el n b z k1 x1 hT
    split at e
    · rename_i l hl
      obtain ⟨h1, e⟩ := bif_ok e
      rw [Bool.and_eq_true, Bool.and_eq_true, Nat.ble_eq] at h1
      obtain ⟨hint, hl1, hfit⟩ := h1
      obtain ⟨f1, f2⟩ := fitB_is hfit
      rw [T.seq_eq] at e; cases e
      have e1 := natOf_eq hl; subst e1
      cases hs; cases hx
      have hf' : ρ nx = none := hf nx (Nat.le_refl _) (Nat.lt_succ_self _)
      obtain ⟨kn, htn⟩ : ∃ kn, P.underlying u = some (.int kn) := by
        unfold intTy at hint
        split at hint
        · rename_i kn h; exact ⟨kn, h⟩
        · cases hint
      unfold makeTy at hT
      split at hT
      · rename_i e' n' z' hrow
        split at hT <;> cases hT
        rename_i i hi
        obtain ⟨hu, hn, hz, hzl, hn0⟩ := rowTy_is hrow
        have hsz : i.size = n := by unfold sizeTy at hn; simpa [hi] using hn
        obtain ⟨zr, hzr, hzv⟩ : ∃ zr, i.zero = some zr ∧ VRel ρ z zr := by
          unfold zeroTy at hz
          simp only [hi] at hz
          cases g : i.zero with
          | none => simp [g] at hz
          | some zr =>
            simp only [g] at hz
            exact ⟨zr, rfl, ofV_rel hz⟩
        have hzc := hzv.cells
        have hzs : zr.cells.size = n := by have := hzc.len; rw [hzl] at this; simpa using this.symm
        have hrr := repl_rel hzc l
        have hcells : (Builtin.zeroCells zr.cells l).toList = (List.replicate l zr.cells.toList).flatten := rangeZ zr.cells l (by omega)
        have hns : Builtin.nextslicecap (0 + l) 0 ≤ 2 * (0 + l) := nextslicecap_le (by omega)
        have hcap : Builtin.nextslicecap (0 + l) 0 * i.bytes ≤ 281474976710656 := Nat.le_trans (Nat.mul_le_mul_right _ hns) (by simpa using f1)
        have h48 : l * i.bytes ≤ 281474976710656 := Nat.le_trans (Nat.mul_le_mul_right _ (by omega)) f1
        have hrun := Lib.run_append_grow_zeros (P := P) w t u ty el i zr k1 kn hu htn hi hzr none 0 0 [] (by simp [Builtin.firstCells]) l (by omega) (by omega) (by omega) (by omega) h48 hcap
        refine ⟨_, _, _, hrun, ⟨w.heap.size, grownCap w (0 + l) 0 el, set_self _ _ _, by simp, by have := grownCap_ge w (0 + l) 0 el; omega⟩,
          grow_stp hR hf' el hrr hn0 (by rw [hrr.len, ← hcells]; simp [Builtin.zeroCells, hzs]) (by have := grownCap_ge w (0 + l) 0 el; omega) (Builtin.zeroCells zr.cells (grownCap w (0 + l) 0 el - (0 + l))) (by rw [size_zeroCells, hzs, Nat.sub_mul]; simp) _ rfl rfl rfl ?_⟩
        show w.heap.push _ = _
        rw [← hcells]; simp
      · cases hT
    · cases e
  · rename_i el z b zv id off len cap k1 x1 hT
    split at e
    · rename_i l o hl hid
      split at e
      · rename_i tr htr
        obtain ⟨h1, e2⟩ := bif_ok e
        clear e; have e := e2; clear e2
        rw [Bool.and_eq_true, Bool.and_eq_true, Bool.and_eq_true, Nat.ble_eq, Nat.ble_eq] at h1
        obtain ⟨hint, hl1, hcl, hfit⟩ := h1
        obtain ⟨f1, f2⟩ := fitB_is hfit
        split at e
        · rename_i old hold
          rw [T.seq_eq] at e; cases e
          have e1 := natOf_eq hl; subst e1
          obtain ⟨bb, C, hb, rfl⟩ := hs
          cases hx
          have hf' : ρ nx = none := hf nx (Nat.le_refl _) (Nat.lt_succ_self _)
          obtain ⟨kn, htn⟩ : ∃ kn, P.underlying u = some (.int kn) := by
            unfold intTy at hint
            split at hint
            · rename_i kn h; exact ⟨kn, h⟩
            · cases hint
          unfold makeTy at hT
          split at hT
          · rename_i e' n' z' hrow
            split at hT <;> cases hT
            rename_i i hi
            obtain ⟨hu, hn, hz, hzl, hn0⟩ := rowTy_is hrow
            have hsz : i.size = z := by unfold sizeTy at hn; simpa [hi] using hn
            obtain ⟨zr, hzr, hzv⟩ : ∃ zr, i.zero = some zr ∧ VRel ρ zv zr := by
              unfold zeroTy at hz
              simp only [hi] at hz
              cases g : i.zero with
              | none => simp [g] at hz
              | some zr =>
                simp only [g] at hz
                exact ⟨zr, rfl, ofV_rel hz⟩
            have hzc := hzv.cells
            have hzs : zr.cells.size = z := by have := hzc.len; rw [hzl] at this; simpa using this.symm
            have hrr := repl_rel hzc l
            have hcells : (Builtin.zeroCells zr.cells l).toList = (List.replicate l zr.cells.toList).flatten := rangeZ zr.cells l (by omega)
            have hcl' : cap < len + l := hcl
            have f1' : 2 * (len + l) * i.bytes ≤ 281474976710656 := f1
            have f2' : len + l ≤ 9223372036854775807 := f2
            have hns : Builtin.nextslicecap (len + l) cap ≤ 2 * (len + l) := nextslicecap_le (by omega)
            have hcap : Builtin.nextslicecap (len + l) cap * i.bytes ≤ 281474976710656 := Nat.le_trans (Nat.mul_le_mul_right _ hns) f1'
            have h48 : l * i.bytes ≤ 281474976710656 := Nat.le_trans (Nat.mul_le_mul_right _ (by omega)) f1'
            obtain ⟨cc, hblk, hcr⟩ := rel_block hR hid htr hb
            obtain ⟨om, hom, homr, hocell, _⟩ := readN_run (P := P) hblk hcr hold
            have hfc : (Builtin.firstCells i.size len (.slice (some ⟨bb, off, none⟩) len cap)).run P w.drew = .ok om.toArray w.drew := by
              have := loadCells_same (P := P) (w' := w.drew) rfl hocell
              rw [hom] at this
              rw [hsz]
              simp only [Builtin.firstCells]; exact this
            have hrun := Lib.run_append_grow_zeros (P := P) w t u ty el i zr k1 kn hu htn hi hzr (some ⟨bb, off, none⟩) len cap om hfc l (by omega) (by omega) (by omega) (by omega) h48 hcap
            have hlen : (old.app (repl l zv.cells)).len = (len + l) * z := by
              have := (homr.app hrr).len
              rw [this, List.length_append, hom, ← hcells]
              simp [Builtin.zeroCells, hzs, Nat.add_mul]
            refine ⟨_, _, _, hrun, ⟨w.heap.size, grownCap w (len + l) cap el, set_self _ _ _, rfl, grownCap_ge w (len + l) cap el⟩,
              grow_stp hR hf' el (homr.app hrr) hn0 hlen (grownCap_ge w (len + l) cap el) (Builtin.zeroCells zr.cells (grownCap w (len + l) cap el - (len + l))) (by rw [size_zeroCells, hzs, Nat.sub_mul]) _ rfl rfl rfl ?_⟩
            have hap : (om ++ (Builtin.zeroCells zr.cells l).toList).toArray = om.toArray ++ Builtin.zeroCells zr.cells l := by apply Array.ext'; simp
            show w.heap.push _ = _
            rw [← hcells, hap]
          · cases hT
        · cases e
      · cases e
    · cases e
  · cases e
end Go.Proofs.YtmhnnfponloihaaDoor
