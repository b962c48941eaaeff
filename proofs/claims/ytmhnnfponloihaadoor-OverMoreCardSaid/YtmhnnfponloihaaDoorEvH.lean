/- Operations that do not touch memory: kinds, structs put together, turned numbers, lengths; all of them at once. No Go program in this text. -/
import Derived.Test.YtmhnnfponloihaaDoorEvG
set_option linter.unusedSimpArgs false
set_option linter.unusedVariables false
namespace Go.Proofs.YtmhnnfponloihaaDoor
open Go.RowKit
variable {ρ : Map} {P : Program} {N : Nat} {sl : T AV} {a : Act}

/-- What is asked for is there, or not. -/
noncomputable def evHolds (ok : Bool) (v : AV) : Option AV := bif ok then some (.tup (.cons v (.cons (.b true) .nil))) else some v
noncomputable def evFails (P : Program) (t : TypeId) (ok : Bool) : Option AV :=
  bif ok then match zeroTy P t with | some z => some (.tup (.cons z (.cons (.b false) .nil))) | none => none else none
def lacks (P : Program) (t : TypeId) (want : Array (String × TypeId)) : Nat :=
  match P.info? t with
  | some i => match Instr.missingMethod want i.methods with | none => 1 | some _ => 2
  | none => 0
noncomputable def evTA (P : Program) (t : TypeId) (ok : Bool) (x : AV) : Option AV :=
  match P.underlying t, x with
  | some (.interface _), .ni => evFails P t ok
  | some (.interface want), .ifc d v => match lacks P d want with
    | 1 => evHolds ok (.ifc d v)
    | 2 => evFails P t ok
    | _ => none
  | some _, .ni => evFails P t ok
  | some _, .ifc d v => bif Nat.beq d t then evHolds ok v else evFails P t ok
  | _, _ => none
theorem evTA_run {t xt : TypeId} {ok : Bool} {x : AV} {x' : Value} (hx : VRel ρ x x') {v : AV} (h : evTA P t ok x = some v) : ∃ u, (∀ w, (Instr.typeAssert x' xt t ok).run P w = .ok u w) ∧ VRel ρ v u := by
  have hh : ∀ {y : AV} {y' : Value}, VRel ρ y y' → evHolds ok y = some v → ∃ u, (∀ w, (Pure.pure (if ok then Value.tuple #[y', .bool true] else y') : Sem Value).run P w = .ok u w) ∧ VRel ρ v u := by
    intro y y' hy e
    cases ok
    · cases e; exact ⟨y', fun w => rfl, hy⟩
    · cases e; exact ⟨_, fun w => rfl, _, rfl, y', _, rfl, hy, _, _, rfl, rfl, rfl⟩
  have hf : evFails P t ok = some v → ok = true ∧ ∃ z, (∀ w, (zeroValue t).run P w = .ok z w) ∧ VRel ρ v (.tuple #[z, .bool false]) := by
    intro e
    cases ok
    · cases e
    · simp only [evFails, cond_true] at e
      cases g : zeroTy P t with
      | none => simp [g] at e
      | some z =>
        simp [g] at e; subst e
        obtain ⟨u, h1, h2⟩ := zero_run (ρ := ρ) g
        exact ⟨rfl, u, h1, _, rfl, u, _, rfl, h2, _, _, rfl, rfl, rfl⟩
  unfold evTA at h
  split at h
  · rename_i ms hu
    cases hx
    obtain ⟨rfl, z, h1, h2⟩ := hf h
    exact ⟨_, fun w => by simp [Instr.typeAssert, run_underlying hu, h1] <;> rfl, h2⟩
  · rename_i want d y hu
    obtain ⟨y', rfl, hy⟩ := hx
    have hl : (lacks P d want = 1 → ∃ i, P.info? d = some i ∧ Instr.missingMethod want i.methods = none) ∧ (lacks P d want = 2 → ∃ i m, P.info? d = some i ∧ Instr.missingMethod want i.methods = some m) := by
      unfold lacks
      cases g : P.info? d with
      | none => simp
      | some i => cases g2 : Instr.missingMethod want i.methods <;> simp [g2]
    split at h
    · rename_i e
      obtain ⟨i, hi, hm⟩ := hl.1 e
      obtain ⟨u, h1, h2⟩ := hh (y := .ifc d y) ⟨y', rfl, hy⟩ h
      exact ⟨u, fun w => by simp only [Instr.typeAssert, Sem.run_bind, run_underlying hu, Result.andThen_ok, typeInfo, run_program, hi, Sem.run_pure, hm]; exact h1 w, h2⟩
    · rename_i e
      obtain ⟨i, m, hi, hm⟩ := hl.2 e
      obtain ⟨rfl, z, h1, h2⟩ := hf h
      exact ⟨_, fun w => by simp [Instr.typeAssert, run_underlying hu, typeInfo, hi, hm, h1] <;> rfl, h2⟩
    · cases h
  · rename_i d hne hu
    cases hx
    obtain ⟨rfl, z, h1, h2⟩ := hf h
    refine ⟨_, fun w => ?_, h2⟩
    cases d <;> simp_all [Instr.typeAssert, run_underlying hu]
  · rename_i dd d y hne hu
    obtain ⟨y', rfl, hy⟩ := hx
    by_cases hd : d = t
    · rw [beq_t hd, cond_true] at h
      obtain ⟨u, h1, h2⟩ := hh hy h
      refine ⟨u, fun w => ?_, h2⟩
      rw [← h1 w]
      cases dd <;> simp_all [Instr.typeAssert, run_underlying hu]
    · rw [beq_f hd, cond_false] at h
      obtain ⟨rfl, z, h1, h2⟩ := hf h
      refine ⟨_, fun w => ?_, h2⟩
      cases dd <;> simp_all [Instr.typeAssert, run_underlying hu]
  · cases h
/-- Parts put into a struct's or an array's cells. -/
noncomputable def evFill (place : Nat → Option (Nat × Nat)) (cells : AVs) : List (Nat × AV) → Option AVs
  | [] => some cells
  | (i, v) :: rest => match place i with
    | none => none
    | some (off, size) => bif Nat.beq v.cells.len size && Nat.ble (Nat.add off size) cells.len then evFill place (AVs.over off v.cells cells) rest else none
/-- Row by row. -/
def PRel (ρ : Map) : List (Nat × AV) → List (Nat × Value) → Prop
  | [], m => m = []
  | (i, x) :: l, m => ∃ v r, m = (i, v) :: r ∧ VRel ρ x v ∧ PRel ρ l r
theorem foldl_over (off : Nat) : ∀ (v : List Value) (j : Nat) (cs : Array Value), off + j + v.length ≤ cs.size →
    ((v.zipIdx j).foldl (fun cs (x : Value × Nat) => cs.setIfInBounds (off + x.2) x.1) cs).toList = cs.toList.take (off + j) ++ v ++ cs.toList.drop (off + j + v.length)
  | [], j, cs, h => by simp
  | x :: v, j, cs, h => by
    simp only [List.length_cons] at h
    rw [List.zipIdx_cons, List.foldl_cons, foldl_over off v (j + 1) _ (by simp; omega)]
    have hlt : off + j < cs.toList.length := by simp; omega
    simp only [Array.toList_setIfInBounds, List.length_cons]
    have e1 : (cs.toList.set (off + j) x).take (off + (j + 1)) = cs.toList.take (off + j) ++ [x] := by
      have e0 : (cs.toList.set (off + j) x)[off + j]? = some x := by rw [List.getElem?_set]; simp at hlt ⊢; omega
      rw [← Nat.add_assoc, List.take_add_one, List.take_set_of_le (by omega), e0]
      rfl
    have e2 : (cs.toList.set (off + j) x).drop (off + (j + 1) + v.length) = cs.toList.drop (off + j + (v.length + 1)) := by
      rw [List.drop_set_of_lt (by omega)]
      congr 1; omega
    rw [e1, e2]; simp
theorem evFill_run {place : Nat → Option (Nat × Nat)} : ∀ {l : List (Nat × AV)} {m : List (Nat × Value)} {c : AVs} {d : Array Value} {r : AVs}, PRel ρ l m → VsRel ρ c d.toList → evFill place c l = some r →
    ∃ d', Instr.fill place d m = some d' ∧ VsRel ρ r d'.toList
  | [], m, c, d, r, hp, hc, h => by
    simp only [PRel] at hp; subst hp
    simp only [evFill] at h; cases h
    exact ⟨d, rfl, hc⟩
  | (i, x) :: l, m, c, d, r, ⟨v, q, e, hv, hp⟩, hc, h => by
    subst e
    simp only [evFill] at h
    cases g : place i with
    | none => simp [g] at h
    | some os =>
      obtain ⟨off, size⟩ := os
      simp only [g] at h
      obtain ⟨h1, h⟩ := bif_some' h
      rw [Bool.and_eq_true, Nat.beq_eq, Nat.ble_eq] at h1
      have hl := hv.cells.len
      have hcl := hc.len
      have hs : v.cells.size = size := by rw [← h1.1, hl]; simp
      have ho := VsRel.over (n := off) hv.cells hc (by rw [h1.1]; exact h1.2)
      have hle : off + size ≤ d.size := by have : off + size ≤ c.len := h1.2; rw [hcl] at this; simpa using this
      have hf := foldl_over off v.cells.toList 0 d (by simp; omega)
      simp only [Nat.add_zero] at hf
      have hz : v.cells.zipIdx.foldl (fun cs (x : Value × Nat) => cs.setIfInBounds (off + x.2) x.1) d = (v.cells.toList.zipIdx 0).foldl (fun cs (x : Value × Nat) => cs.setIfInBounds (off + x.2) x.1) d := by
        rw [← Array.foldl_toList, Array.toList_zipIdx]
      obtain ⟨d', h2, h3⟩ := evFill_run (l := l) (m := q) (c := AVs.over off x.cells c) (d := v.cells.zipIdx.foldl (fun cs (x : Value × Nat) => cs.setIfInBounds (off + x.2) x.1) d) hp (by rw [hz, hf]; exact ho) h
      refine ⟨d', ?_, h3⟩
      simp only [Instr.fill, g]
      rw [if_neg]
      · exact h2
      · simp only [hs, ne_eq, not_true, decide_false, Bool.false_or, decide_eq_true_eq]; omega
/-- The places of a struct's or an array's parts, and its zero's cells. -/
def places (P : Program) (fs : List Field) : Option (List (Nat × Nat)) := fs.mapM (fun f => (P.info? f.type).map fun i => (f.offset, i.size))
noncomputable def evBuild (P : Program) (t : TypeId) (l : List (Nat × AV)) : Option AV :=
  match zeroTy P t, P.underlying t with
  | some z, some (.struct fs) => match places P fs.toList with
    | some ps => match evFill (ps.toArray[·]?) z.cells l with | some c => some (.agg c) | none => none
    | none => none
  | some z, some (.array _ e) => match sizeTy P e with
    | some n => match evFill (fun i => some (i * n, n)) z.cells l with | some c => some (.agg c) | none => none
    | none => none
  | _, _ => none
theorem evBuild_run {t : TypeId} {l : List (Nat × AV)} {m : Array (Nat × Value)} (hp : PRel ρ l m.toList) {v : AV} (h : evBuild P t l = some v) : ∃ u, (∀ w, (Instr.build t m).run P w = .ok u w) ∧ VRel ρ v u := by
  have hz : ∀ z, zeroTy P t = some z → ∃ it u, P.info? t = some it ∧ it.zero = some u ∧ VRel ρ z u := by
    intro z e
    unfold zeroTy at e
    cases g : P.info? t with
    | none => simp [g] at e
    | some i =>
      simp only [g] at e
      cases f : i.zero with
      | none => simp [f] at e
      | some u => simp only [f] at e; exact ⟨i, u, rfl, f, ofV_rel e⟩
  unfold evBuild at h
  split at h
  · rename_i z fs hz' hu
    obtain ⟨it, u, hi, hzu, hr⟩ := hz z hz'
    split at h
    · rename_i ps hps
      split at h <;> cases h
      rename_i c hc
      obtain ⟨d, h1, h2⟩ := evFill_run hp hr.cells hc
      refine ⟨.agg d, fun w => run_build w t m d ?_, d, rfl, h2⟩
      unfold places at hps
      simp only [Program.built, hi, hu, hzu, hps]; exact h1
    · cases h
  · rename_i z n e hz' hu
    obtain ⟨it, u, hi, hzu, hr⟩ := hz z hz'
    split at h
    · rename_i k hk
      split at h <;> cases h
      rename_i c hc
      obtain ⟨d, h1, h2⟩ := evFill_run hp hr.cells hc
      refine ⟨.agg d, fun w => run_build w t m d ?_, d, rfl, h2⟩
      unfold sizeTy at hk
      cases g : P.info? e with
      | none => simp [g] at hk
      | some ie => simp [g] at hk; subst hk; simp only [Program.built, hi, hu, hzu, g]; exact h1
    · cases h
  · cases h
end Go.Proofs.YtmhnnfponloihaaDoor
