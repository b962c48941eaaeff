/- Operations that do not touch memory: places, parts, kinds, functions. No Go program in this text. -/
import Derived.Test.YtmhnnfponloihaaDoorEvE
set_option linter.unusedSimpArgs false
set_option linter.unusedVariables false
namespace Go.Proofs.YtmhnnfponloihaaDoor
open Go.RowKit
variable {ρ : Map} {P : Program} {N : Nat} {sl : T AV} {a : Act}

/-- How a type's values lie: 1: a struct or array, 2: else; 0: no type. -/
def aggTy (P : Program) (t : TypeId) : Nat :=
  match P.underlying t with
  | some (.struct _) => 1
  | some (.array _ _) => 1
  | some _ => 2
  | none => 0
def sizeTy (P : Program) (t : TypeId) : Option Nat :=
  match P.info? t with
  | some i => some i.size
  | none => none
theorem isAgg_run {t : TypeId} (w : World) : (aggTy P t = 1 → (isAgg t).run P w = .ok true w) ∧ (aggTy P t = 2 → (isAgg t).run P w = .ok false w) := by
  unfold aggTy isAgg
  cases h : P.underlying t with
  | none => simp
  | some d => cases d <;> simp [run_underlying h]
theorem sizeOf_run {t : TypeId} {n : Nat} (h : sizeTy P t = some n) (w : World) : (sizeOf t).run P w = .ok n w := by
  unfold sizeTy at h
  cases e : P.info? t with
  | none => simp [e] at h
  | some i => simp [e] at h; subst h; simp [sizeOf, typeInfo, e]
/-- The zero of a type. -/
def zeroTy (P : Program) (t : TypeId) : Option AV :=
  match P.info? t with
  | some i => match i.zero with | some v => ofV v | none => none
  | none => none
theorem zero_run {t : TypeId} {v : AV} (h : zeroTy P t = some v) : ∃ u, (∀ w, (zeroValue t).run P w = .ok u w) ∧ VRel ρ v u := by
  unfold zeroTy at h
  cases e : P.info? t with
  | none => simp [e] at h
  | some i =>
    simp only [e] at h
    cases f : i.zero with
    | none => simp [f] at h
    | some z =>
      simp only [f] at h
      exact ⟨z, fun w => by simp [zeroValue, typeInfo, e, f], ofV_rel h⟩
/-- One part of a struct's or an array's cells. -/
noncomputable def evPart (P : Program) (t : TypeId) (l : AVs) (off : Nat) : Option AV :=
  match aggTy P t, sizeTy P t with
  | 1, some n => bif Nat.ble (Nat.add off n) l.len then some (.agg (AVs.take n (AVs.drop off l))) else none
  | 2, _ => l.get off
  | _, _ => none
theorem evPart_run {t : TypeId} {l : AVs} {c : Array Value} (hc : VsRel ρ l c.toList) {off : Nat} {v : AV} (h : evPart P t l off = some v) : ∃ u, (∀ w, (part t c off).run P w = .ok u w) ∧ VRel ρ v u := by
  unfold evPart at h
  split at h
  · rename_i n h1 h2
    rw [ble_eq] at h
    by_cases hn : Nat.add off n ≤ l.len
    · rw [decide_eq_true hn, cond_true] at h; cases h
      refine ⟨.agg (c.extract off (off + n)), fun w => by simp [part, (isAgg_run w).1 h1, sizeOf_run h2], _, rfl, ?_⟩
      have := (hc.drop (n := off)).take (n := n)
      rw [Array.toList_extract, List.extract]
      simpa using this
    · rw [decide_eq_false hn, cond_false] at h; cases h
  · rename_i h1
    obtain ⟨u, e, r⟩ := hc.at h
    refine ⟨u, fun w => ?_, r⟩
    have e' : c[off]? = some u := by simpa using e
    simp [part, (isAgg_run w).2 h1, e']
  · cases h
noncomputable def evFieldV (P : Program) (t : TypeId) (l : AVs) (i : Nat) : Option AV :=
  match P.underlying t with
  | some (.struct fs) => match fs[i]? with | some f => evPart P f.type l f.offset | none => none
  | _ => none
theorem evFieldV_run {t : TypeId} {l : AVs} {x : Value} (hx : VRel ρ (.agg l) x) {i : Nat} {v : AV} (h : evFieldV P t l i = some v) : ∃ u, (∀ w, (Instr.field t x i).run P w = .ok u w) ∧ VRel ρ v u := by
  obtain ⟨c, rfl, hc⟩ := hx
  unfold evFieldV at h
  split at h
  · rename_i fs hu
    cases e : fs[i]? with
    | none => simp [e] at h
    | some f =>
      simp only [e] at h
      obtain ⟨u, h1, h2⟩ := evPart_run hc h
      exact ⟨u, fun w => by simp [Instr.field, run_underlying hu, e, asAgg, h1], h2⟩
  · cases h
/-- A field's place. -/
def fieldOff (P : Program) (t : TypeId) (i : Nat) : Option Nat :=
  match P.underlying t with
  | some (.struct fs) => match fs[i]? with
    | some f => match sizeTy P f.type with | some n => bif Nat.beq n 0 then none else some f.offset | none => none
    | none => none
  | _ => none
theorem addr_add (b o n : Nat) : (⟨b, o, none⟩ : Addr).add n = ⟨b, o + n, none⟩ := by unfold Addr.add; split <;> simp_all
theorem fieldAt_run {t : TypeId} {i n : Nat} (h : fieldOff P t i = some n) {b o : Nat} (w : World) : (Instr.fieldAt t (.pointer (some ⟨b, o, none⟩)) i).run P w = .ok (.pointer (some ⟨b, o + n, none⟩)) w := by
  unfold fieldOff at h
  split at h
  · rename_i fs hu
    cases e : fs[i]? with
    | none => simp [e] at h
    | some f =>
      simp only [e] at h
      cases g : sizeTy P f.type with
      | none => simp [g] at h
      | some k =>
        simp only [g, beq_eq] at h
        by_cases hk : k = 0
        · rw [decide_eq_true hk] at h; cases h
        · rw [decide_eq_false hk, cond_false] at h; cases h
          simp [Instr.fieldAt, run_underlying hu, e, Instr.sureAddr, fieldPlace, sizeOf_run g, hk, addr_add]
  · cases h
/-- An element's place: 1: a slice's, of elements of n cells; 2: an array's of len elements. -/
def idxTy (P : Program) (t : TypeId) : Nat × Nat × Nat :=
  match P.underlying t with
  | some (.slice e) => match sizeTy P e with | some n => (1, n, 0) | none => (0, 0, 0)
  | some (.array len e) => match sizeTy P e with | some n => (2, n, len) | none => (0, 0, 0)
  | _ => (0, 0, 0)
noncomputable def natOf (n : Int) : Option Nat := match n with | .ofNat k => some k | .negSucc _ => none
noncomputable def evIdx (P : Program) (t : TypeId) (x : AV) (n : Int) : Option AV :=
  match idxTy P t, natOf n with
  | (1, z, _), some k => match x with
    | .sl id off len _ => bif Nat.ble (Nat.succ k) len then some (.p id (Nat.add off (Nat.mul k z))) else none
    | .su id off len => bif Nat.ble (Nat.succ k) len then some (.p id (Nat.add off (Nat.mul k z))) else none
    | .gs id len => bif Nat.ble (Nat.succ k) len then some (.p id (Nat.mul k z)) else none
    | _ => none
  | (2, z, len), some k => match x with
    | .p id off => bif Nat.ble (Nat.succ k) len then some (.p id (Nat.add off (Nat.mul k z))) else none
    | _ => none
  | _, _ => none
theorem natOf_eq {n : Int} {k : Nat} (h : natOf n = some k) : n = k := by cases n <;> simp [natOf] at h; subst h; rfl
theorem bif_some {α : Type} {b : Bool} {x v : α} (h : (bif b then some x else none) = some v) : b = true ∧ x = v := by cases b <;> simp at h; exact ⟨rfl, h⟩
theorem evIdx_run {t : TypeId} {x : AV} {x' : Value} (hx : VRel ρ x x') {k : IntKind} {n : Int} {v : AV} (h : evIdx P t x n = some v) : ∃ u, (∀ w, (Instr.indexAt t x' (.int k n)).run P w = .ok u w) ∧ VRel ρ v u := by
  unfold evIdx at h
  split at h
  · rename_i z y m hi hn
    have := natOf_eq hn; subst this
    have hu : ∃ e, P.underlying t = some (.slice e) ∧ sizeTy P e = some z := by
      unfold idxTy at hi
      split at hi
      · rename_i e hu
        cases g : sizeTy P e with
        | none => simp [g] at hi
        | some q => simp [g] at hi; obtain ⟨rfl, _⟩ := hi; exact ⟨e, hu, g⟩
      · rename_i len e hu
        cases g : sizeTy P e <;> simp [g] at hi
      · simp at hi
    obtain ⟨e, hu, hz⟩ := hu
    split at h
    · obtain ⟨h1, rfl⟩ := bif_some h
      rw [Nat.ble_eq] at h1
      obtain ⟨b, C, hr, rfl⟩ := hx
      have hlt : m < _ := h1
      exact ⟨_, fun w => by simp [Instr.indexAt, asIntOf, run_underlying hu, hlt, sizeOf_run hz, addr_add] <;> rfl, b, C, hr, rfl⟩
    · obtain ⟨h1, rfl⟩ := bif_some h
      rw [Nat.ble_eq] at h1
      obtain ⟨b, C, o, c, hr, rfl, _, ho⟩ := hx
      have hlt : m < _ := h1
      have := ho (by omega); subst this
      exact ⟨_, fun w => by simp [Instr.indexAt, asIntOf, run_underlying hu, hlt, sizeOf_run hz, addr_add] <;> rfl, b, C, hr, rfl⟩
    · obtain ⟨h1, rfl⟩ := bif_some h
      rw [Nat.ble_eq] at h1
      obtain ⟨b, C, hr, rfl, _⟩ := hx
      have hlt : m < _ := h1
      exact ⟨_, fun w => by simp [Instr.indexAt, asIntOf, run_underlying hu, hlt, sizeOf_run hz, addr_add] <;> rfl, b, C, hr, rfl⟩
    · cases h
  · rename_i z len m hi hn
    have := natOf_eq hn; subst this
    have hu : ∃ e, P.underlying t = some (.array len e) ∧ sizeTy P e = some z := by
      unfold idxTy at hi
      split at hi
      · rename_i e hu
        cases g : sizeTy P e <;> simp [g] at hi
      · rename_i len' e hu
        cases g : sizeTy P e with
        | none => simp [g] at hi
        | some q => simp [g] at hi; obtain ⟨rfl, rfl⟩ := hi; exact ⟨e, hu, g⟩
      · simp at hi
    obtain ⟨e, hu, hz⟩ := hu
    split at h
    · obtain ⟨h1, rfl⟩ := bif_some h
      rw [Nat.ble_eq] at h1
      obtain ⟨b, C, hr, rfl⟩ := hx
      have hlt : m < _ := h1
      exact ⟨_, fun w => by simp [Instr.indexAt, asIntOf, run_underlying hu, Instr.sureAddr, hlt, sizeOf_run hz, addr_add] <;> rfl, b, C, hr, rfl⟩
    · cases h
  · cases h
end Go.Proofs.YtmhnnfponloihaaDoor
