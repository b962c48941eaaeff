/- An operation of a closed run that calls nothing. No Go program in this text. -/
import Derived.Test.YtmhnnfponloihaaDoorEvM5
set_option linter.unusedSimpArgs false
set_option linter.unusedVariables false
namespace Go.Proofs.YtmhnnfponloihaaDoor
open Go.RowKit
variable {ρ : Map} {P : Program} {N : Nat} {sl : T AV} {a : Act} {h : T AO} {w : World} {nx : Nat}

noncomputable def evStore (P : Program) (h : T AO) (nx : Nat) (t : TypeId) (x v : AV) : R :=
  match x, sizeTy P t with
  | .p id off, some n => match h.get id with
    | some o => match o.tr with
      | some tr => match (bif Nat.beq v.cells.len n && v.cells.ones then writeN v.cells off tr else none) with
        | some t' => (h.put id (o.setTr t')).seq fun h => .ok (.tup .nil) h nx
        | none => .bad
      | none => .bad
    | none => .bad
  | _, _ => .bad
theorem evStore_run (hR : Rel ρ h.get w) {t : TypeId} {x v : AV} {x' v' : Value} (hx : VRel ρ x x') (hv : VRel ρ v v') {r : AV} {h' : T AO} {nx' : Nat} (e : evStore P h nx t x v = .ok r h' nx') :
    ∃ w', (Instr.storeAt t x' v').run P w = .ok () w' ∧ r = .tup .nil ∧ Stp ρ ρ h.get h'.get w w' nx nx' := by
  unfold evStore at e
  split at e
  · rename_i id off n hn
    obtain ⟨b, C, hb, rfl⟩ := hx
    split at e
    · rename_i o hid
      split at e
      · rename_i tr htr
        split at e
        · rename_i t' ht'
          obtain ⟨h1, h2⟩ := bif_some' ht'
          rw [Bool.and_eq_true, Nat.beq_eq] at h1
          rw [T.seq_eq] at e; cases e
          obtain ⟨w', hst, hstp⟩ := write_stp (P := P) (nx := nx) hR hid htr hb hv.cells h1.2 h2
          have hs : v'.cells.size = n := by have := hv.cells.len; rw [h1.1] at this; simpa using this.symm
          refine ⟨w', ?_, rfl, hstp⟩
          simp [Instr.storeAt, Instr.sureAddr, storeVar, sizeOf_run hn, hs, hst]
        · cases e
      · cases e
    · cases e
  · cases e
noncomputable def evAlloc (P : Program) (h : T AO) (nx : Nat) (t : TypeId) : R := match zeroTy P t with | some z => evBox h nx t z | none => .bad
theorem evAlloc_run (hR : Rel ρ h.get w) {t : TypeId} {r : AV} {h' : T AO} {nx' : Nat} (e : evAlloc P h nx t = .ok r h' nx') (hf : Fr ρ nx nx') :
    ∃ ρ' u w', (Instr.alloc t true (.tuple #[])).run P w = .ok u w' ∧ VRel ρ' r u ∧ Stp ρ ρ' h.get h'.get w w' nx nx' := by
  unfold evAlloc at e
  split at e
  · rename_i z hz
    obtain ⟨z', h1, h2⟩ := zero_run (ρ := ρ) hz
    obtain ⟨ρ', u, w', k1, k2, k3⟩ := evBox_run (P := P) hR h2 e hf
    exact ⟨ρ', _, w', by simp only [Instr.alloc, Sem.run_bind, h1, Result.andThen_ok, k1, Sem.run_pure], k2, k3⟩
  · cases e
/-- A length. -/
def lenTy (P : Program) (t : TypeId) : Nat :=
  match P.underlying t with
  | some .string => 1
  | some (.slice _) => 2
  | _ => 0
noncomputable def evLen (P : Program) (t : TypeId) (x : AV) : Option AV :=
  match lenTy P t, x with
  | 1, .s n _ => some (.i .i64 (.ofNat n))
  | 2, .sl _ _ n _ => some (.i .i64 (.ofNat n))
  | 2, .su _ _ n => some (.i .i64 (.ofNat n))
  | 2, .gs _ n => some (.i .i64 (.ofNat n))
  | 2, .ns => some (.i .i64 (.ofNat 0))
  | _, _ => none
theorem lenTy_is {t : TypeId} : (lenTy P t = 1 → P.underlying t = some .string) ∧ (lenTy P t = 2 → ∃ e, P.underlying t = some (.slice e)) := by
  unfold lenTy
  split <;> simp_all
theorem evLen_run {t ty : TypeId} {x : AV} {x' : Value} (hx : VRel ρ x x') {v : AV} (e : evLen P t x = some v) : ∃ u, (∀ w, (Builtin.len_ #[t] ty #[x']).run P w = .ok u w) ∧ VRel ρ v u := by
  obtain ⟨l1, l2⟩ := lenTy_is (P := P) (t := t)
  unfold evLen at e
  split at e <;> try cases e
  · rename_i n d k
    obtain ⟨s, rfl, hs⟩ := hx
    exact ⟨.int .i64 n, fun w => by simp [Builtin.len_, run_underlying (l1 k), goInt, hs.size], rfl⟩
  · rename_i id off n c k
    obtain ⟨d, hd⟩ := l2 k
    obtain ⟨b, C, _, rfl⟩ := hx
    exact ⟨.int .i64 n, fun w => by simp [Builtin.len_, run_underlying hd, goInt], rfl⟩
  · rename_i id off n k
    obtain ⟨d, hd⟩ := l2 k
    obtain ⟨b, C, o, c, _, rfl, _⟩ := hx
    exact ⟨.int .i64 n, fun w => by simp [Builtin.len_, run_underlying hd, goInt], rfl⟩
  · rename_i id n k
    obtain ⟨d, hd⟩ := l2 k
    obtain ⟨b, C, _, rfl, _⟩ := hx
    exact ⟨.int .i64 n, fun w => by simp [Builtin.len_, run_underlying hd, goInt], rfl⟩
  · rename_i k
    obtain ⟨d, hd⟩ := l2 k
    cases hx
    exact ⟨.int .i64 (0 : Nat), fun w => by simp [Builtin.len_, run_underlying hd, goInt], rfl⟩
/-- A capacity, where it is known. -/
noncomputable def evCap (P : Program) (t : TypeId) (x : AV) : Option AV :=
  match lenTy P t, x with
  | 2, .sl _ _ _ c => some (.i .i64 (.ofNat c))
  | 2, .ns => some (.i .i64 (.ofNat 0))
  | _, _ => none
theorem evCap_run {t ty : TypeId} {x : AV} {x' : Value} (hx : VRel ρ x x') {v : AV} (e : evCap P t x = some v) : ∃ u, (∀ w, (Builtin.cap_ #[t] ty #[x']).run P w = .ok u w) ∧ VRel ρ v u := by
  obtain ⟨l1, l2⟩ := lenTy_is (P := P) (t := t)
  unfold evCap at e
  split at e <;> try cases e
  · rename_i id off n c k
    obtain ⟨d, hd⟩ := l2 k
    obtain ⟨b, C, _, rfl⟩ := hx
    exact ⟨.int .i64 c, fun w => by simp [Builtin.cap_, run_underlying hd, goInt], rfl⟩
  · rename_i k
    obtain ⟨d, hd⟩ := l2 k
    cases hx
    exact ⟨.int .i64 (0 : Nat), fun w => by simp [Builtin.cap_, run_underlying hd, goInt], rfl⟩
noncomputable def evMin (mx : Bool) (l : AVs) : Option AV :=
  match l with
  | .cons (.i k x) (.cons (.i _ y) .nil) => some (.i k (bif mx then (bif ltI x y then y else x) else (bif ltI y x then y else x)))
  | _ => none
theorem evMin_run {ts : Array TypeId} {ty : TypeId} {l : AVs} {m : List Value} (hm : VsRel ρ l m) {v : AV} {mx : Bool} (e : evMin mx l = some v) :
    ∃ u, (∀ w, (bif mx then Builtin.max_ ts ty m.toArray else Builtin.min_ ts ty m.toArray).run P w = .ok u w) ∧ VRel ρ v u := by
  unfold evMin at e
  split at e <;> cases e
  rename_i k x j y
  obtain ⟨v1, r1, rfl, h1, v2, r2, rfl, h2, h3⟩ := hm
  cases h1; cases h2; cases h3
  cases mx
  · refine ⟨.int k (if y < x then y else x), fun w => by simp [Builtin.min_, Builtin.min2], ?_⟩
    simp only [cond_false, ltI_eq, VRel]
    by_cases hh : y < x <;> simp [hh]
  · refine ⟨.int k (if y > x then y else x), fun w => by simp [Builtin.max_, Builtin.max2], ?_⟩
    simp only [cond_true, ltI_eq, VRel]
    by_cases hh : x < y <;> simp [hh]
def ofO (h : T AO) (nx : Nat) : Option AV → R
  | some v => .ok v h nx
  | none => .bad
/-- What the language gives. -/
noncomputable def evBuiltin (P : Program) (h : T AO) (nx : Nat) (b : Builtin) (ts : List TypeId) (l : AVs) : R :=
  match b, ts, l with
  | .append, [t, u], .cons s (.cons x .nil) => match x with | .i _ _ => evAppZ P h nx t u s x | _ => evAppend P h nx t u s x
  | .len, [t], .cons x .nil => ofO h nx (evLen P t x)
  | .cap, [t], .cons x .nil => ofO h nx (evCap P t x)
  | .min, _, l => ofO h nx (evMin false l)
  | .max, _, l => ofO h nx (evMin true l)
  | .copy, [t, _], .cons d (.cons s .nil) => evCopy P h nx t d s
  | .unsafeString, [t, _], .cons x (.cons n .nil) => evUStr P h nx t x n
  | .unsafeSliceData, _, .cons x .nil => ofO h nx (evSData x)
  | _, _, _ => .bad
theorem Does.pure {h : T AO} (hR : Rel ρ h.get w) {v : AV} {u : Value} {s : Sem Next} (hs : s.run P w = .ok (.value u) w) (hv : VRel ρ v u) : Does P ρ h h nx nx v s w := ⟨ρ, w, Stp.refl hR, .inl ⟨u, hs, hv⟩⟩
theorem ofO_is {h h' : T AO} {nx nx' : Nat} {o : Option AV} {v : AV} (e : ofO h nx o = .ok v h' nx') : o = some v ∧ h' = h ∧ nx' = nx := by cases o <;> cases e; exact ⟨rfl, rfl, rfl⟩
theorem evBuiltin_run (hR : Rel ρ h.get w) {b : Builtin} {ts : Array TypeId} {ty : TypeId} {cs : Array Bool} {l : AVs} {m : List Value} (hm : VsRel ρ l m) {v : AV} {h' : T AO} {nx' : Nat} (e : evBuiltin P h nx b ts.toList l = .ok v h' nx') (hf : Fr ρ nx nx') :
    Does P ρ h h' nx nx' v (builtin b ts ty cs m.toArray) w := by
  unfold evBuiltin at e
  split at e
  · rename_i t u s x hts
    have hts' : ts = #[t, u] := Array.toList_inj.1 hts
    subst hts'
    obtain ⟨v1, r1, rfl, h1, v2, r2, rfl, h2, h3⟩ := hm
    cases h3
    split at e
    · obtain ⟨ρ', vv, w', k1, k2, k3⟩ := evAppZ_run (P := P) (ty := ty) hR h1 h2 e hf
      exact ⟨ρ', w', k3, .inl ⟨vv, by simp [builtin, k1], k2⟩⟩
    · obtain ⟨ρ', vv, w', k1, k2, k3⟩ := evAppend_run (P := P) (ty := ty) hR h1 h2 e hf
      exact ⟨ρ', w', k3, .inl ⟨vv, by simp [builtin, k1], k2⟩⟩
  · rename_i t x hts
    have hts' : ts = #[t] := Array.toList_inj.1 hts
    subst hts'
    obtain ⟨v1, r1, rfl, h1, h3⟩ := hm
    cases h3
    obtain ⟨k1, rfl, rfl⟩ := ofO_is e
    obtain ⟨u, k2, k3⟩ := evLen_run (P := P) (ty := ty) h1 k1
    exact Does.pure hR (by simp [builtin, k2]) k3
  · rename_i t x hts
    have hts' : ts = #[t] := Array.toList_inj.1 hts
    subst hts'
    obtain ⟨v1, r1, rfl, h1, h3⟩ := hm
    cases h3
    obtain ⟨k1, rfl, rfl⟩ := ofO_is e
    obtain ⟨u, k2, k3⟩ := evCap_run (P := P) (ty := ty) h1 k1
    exact Does.pure hR (by simp [builtin, k2]) k3
  · obtain ⟨k1, rfl, rfl⟩ := ofO_is e
    obtain ⟨u, k2, k3⟩ := evMin_run (P := P) (ts := ts) (ty := ty) hm k1
    exact Does.pure hR (by have := k2 w; simp only [cond_false] at this; simp [builtin, this]) k3
  · obtain ⟨k1, rfl, rfl⟩ := ofO_is e
    obtain ⟨u, k2, k3⟩ := evMin_run (P := P) (ts := ts) (ty := ty) hm k1
    exact Does.pure hR (by have := k2 w; simp only [cond_true] at this; simp [builtin, this]) k3
  · rename_i t u d s hts
    have hts' : ts = #[t, u] := Array.toList_inj.1 hts
    subst hts'
    obtain ⟨v1, r1, rfl, h1, v2, r2, rfl, h2, h3⟩ := hm
    cases h3
    obtain ⟨vv, w', k1, k2, k3⟩ := evCopy_run (P := P) (u := u) (ty := ty) hR h1 h2 e
    exact ⟨ρ, w', k3, .inl ⟨vv, by simp [builtin, k1], k2⟩⟩
  · rename_i t u x n hts
    have hts' : ts = #[t, u] := Array.toList_inj.1 hts
    subst hts'
    obtain ⟨v1, r1, rfl, h1, v2, r2, rfl, h2, h3⟩ := hm
    cases h3
    obtain ⟨vv, w', k1, k2, k3⟩ := evUStr_run (P := P) (it := u) (ty := ty) hR h1 h2 e
    exact ⟨ρ, w', k3, .inl ⟨vv, by simp [builtin, k1], k2⟩⟩
  · obtain ⟨v1, r1, rfl, h1, h3⟩ := hm
    cases h3
    obtain ⟨k1, rfl, rfl⟩ := ofO_is e
    obtain ⟨u, k2, k3⟩ := evSData_run (P := P) (ts := ts) (ty := ty) h1 k1
    exact Does.pure hR (by simp [builtin, k2]) k3
  · cases e
/-- An operation that enters no function. -/
noncomputable def evM (P : Program) (sl : T AV) (h : T AO) (nx : Nat) (op : Op) : R :=
  match op with
  | .alloc t => evAlloc P h nx t
  | .box t x => match evX sl x with | some v => evBox h nx t v | none => .bad
  | .load t x => match evX sl x with | some v => ofO h nx (evLoad P h t v) | none => .bad
  | .store t x y => match evX sl x, evX sl y with | some u, some v => evStore P h nx t u v | _, _ => .bad
  | .buildSlice t n ps => match evParts sl ps.toList with | some l => evRow P h nx t n l | none => .bad
  | .call c => match c.callee with
    | .builtin b => match evXs sl c.args.toList with | some l => evBuiltin P h nx b c.argTypes.toList l | none => .bad
    | _ => .bad
  | .makeSlice t l c => match evX sl l, evX sl c with | some u, some v => evMake P h nx t u v | _, _ => .bad
  | .convert s d x => match evX sl x with
    | some v => match evConv P s d v with
      | some r => .ok r h nx
      | none => match sbTy P s d with
        | some _ => evSBytes P h nx s d v
        | none => ofO h nx (evConvM P h s d v)
    | none => .bad
  | .binOp op t x y _ => match evX sl x, evX sl y with
    | some u, some v => match evBin P op t (isC x || isC y) u v with
      | some r => .ok r h nx
      | none => match evPtr P op t u v with
        | some r => .ok r h nx
        | none => ofO h nx (evStructEq P op t u v)
    | _, _ => .bad
  | .range t x => match evX sl x with | some v => evRange P h nx t v | none => .bad
  | .next x b => match evX sl x with | some v => evNext h nx v b | none => .bad
  | .makeMap t r => match r with
    | none => evMkMap P h nx t none
    | some x => match evX sl x with | some v => evMkMap P h nx t (some (some v)) | none => .bad
  | .lookup t x k ok => match evX sl x, evX sl k with | some u, some v => ofO h nx (evLookup P h t u v ok) | _, _ => .bad
  | .mapUpdate t m k x => match evX sl m, evX sl k, evX sl x with | some u, some v, some y => evMapPut P h nx t u v y | _, _, _ => .bad
  | .insert t m k x => match evX sl m, evX sl k, evX sl x with | some u, some v, some y => evMapPut P h nx t u v y | _, _, _ => .bad
  | op => ofO h nx (evP P sl op)
theorem evM_run (hR : Rel ρ h.get w) (hS : SRel N ρ sl a) {o : Oper} {v : AV} {h' : T AO} {nx' : Nat} (e : evM P sl h nx o.op = .ok v h' nx') (hf : Fr ρ nx nx') : Does P ρ h h' nx nx' v (execOp a.eval o) w := by
  obtain ⟨dst, op, ty, pos, aft, g⟩ := o
  simp only at e
  have hp : ∀ {op : Op}, ofO h nx (evP P sl op) = .ok v h' nx' → Does P ρ h h' nx nx' v (execOp a.eval ⟨dst, op, ty, pos, aft, g⟩) w := by
    intro op e
    obtain ⟨k1, rfl, rfl⟩ := ofO_is e
    obtain ⟨u, k2, k3⟩ := evP_run (P := P) (o := ⟨dst, op, ty, pos, aft, g⟩) hS k1
    exact Does.pure hR (k2 w) k3
  unfold evM at e
  split at e
  · obtain ⟨ρ', u, w', k1, k2, k3⟩ := evAlloc_run hR e hf
    exact ⟨ρ', w', k3, .inl ⟨u, by simp [execOp, k1], k2⟩⟩
  · split at e
    · rename_i hx
      obtain ⟨ρ', u, w', k1, k2, k3⟩ := evBox_run (P := P) hR (evX_rel hS hx) e hf
      exact ⟨ρ', w', k3, .inl ⟨_, by simp [execOp, Instr.box, k1], k2⟩⟩
    · cases e
  · split at e
    · rename_i hx
      obtain ⟨k1, rfl, rfl⟩ := ofO_is e
      obtain ⟨u, k2, k3⟩ := evLoad_run hR (evX_rel hS hx) k1
      exact Does.pure hR (by simp [execOp, k2]) k3
    · cases e
  · split at e
    · rename_i hx hy
      obtain ⟨w', k1, rfl, k3⟩ := evStore_run hR (evX_rel hS hx) (evX_rel hS hy) e
      exact ⟨ρ, w', k3, .inr ⟨by simp [execOp, k1], rfl⟩⟩
    · cases e
  · split at e
    · rename_i ps _ l hl
      obtain ⟨ρ', u, w', k1, k2, k3⟩ := evRow_run (P := P) hR (m := ps.map fun x => (x.1, a.eval x.2)) (by simpa using evParts_rel hS hl) e hf
      exact ⟨ρ', w', k3, .inl ⟨u, by simp only [execOp]; simp [k1], k2⟩⟩
    · cases e
  · rename_i c
    split at e
    · rename_i b hb
      split at e
      · rename_i l hl
        obtain ⟨ρ', w', k1, k2⟩ := evBuiltin_run (P := P) (ts := c.argTypes) (ty := ty) (cs := c.args.map fun | .const _ => true | _ => false) hR (evXs_rel hS hl) e hf
        refine ⟨ρ', w', k1, ?_⟩
        have : (execOp a.eval ⟨dst, .call c, ty, pos, aft, g⟩).run P w = (builtin b c.argTypes ty (c.args.map fun | .const _ => true | _ => false) (c.args.toList.map a.eval).toArray).run P w := by
          simp only [execOp, resolve, hb, Sem.run_bind, Sem.run_pure, Result.andThen_ok, invoke]
          congr 2
          apply Array.ext'; simp
        rw [this]; exact k2
      · cases e
    · cases e
  · split at e
    · rename_i hx hy
      obtain ⟨ρ', u, w', k1, k2, k3⟩ := evMake_run (P := P) hR (evX_rel hS hx) (evX_rel hS hy) e hf
      exact ⟨ρ', w', k3, .inl ⟨u, by simp [execOp, k1], k2⟩⟩
    · cases e
  · split at e
    · rename_i hx
      split at e
      · rename_i r hr
        cases e
        obtain ⟨u, k1, k2⟩ := evConv_run (P := P) (evX_rel hS hx) hr
        exact Does.pure hR (by simp [execOp, k1]) k2
      · split at e
        · obtain ⟨ρ', u, w', k1, k2, k3⟩ := evSBytes_run (P := P) hR (evX_rel hS hx) e hf
          exact ⟨ρ', w', k3, .inl ⟨u, by simp [execOp, k1], k2⟩⟩
        · obtain ⟨k1, rfl, rfl⟩ := ofO_is e
          obtain ⟨u, k2, k3⟩ := evConvM_run hR (evX_rel hS hx) k1
          exact Does.pure hR (by simp [execOp, k2]) k3
    · cases e
  · split at e
    · rename_i hx hy
      split at e
      · rename_i r hr
        cases e
        obtain ⟨u, k1, k2⟩ := evBin_run (P := P) (evX_rel hS hx) (evX_rel hS hy) hr
        refine Does.pure hR ?_ k2
        simp only [execOp]
        rw [Sem.run_bind, k1 w]; rfl
      · split at e
        · rename_i k1
          cases e
          obtain ⟨u, k2, k3⟩ := evPtr_run (P := P) (evX_rel hS hx) (evX_rel hS hy) k1
          refine Does.pure hR ?_ k3
          simp only [execOp]
          rw [Sem.run_bind, k2 w]; rfl
        · obtain ⟨k1, rfl, rfl⟩ := ofO_is e
          obtain ⟨u, k2, k3⟩ := evStructEq_run (P := P) (evX_rel hS hx) (evX_rel hS hy) k1
          refine Does.pure hR ?_ k3
          simp only [execOp]
          rw [Sem.run_bind, k2 w]; rfl
    · cases e
  · split at e
    · rename_i hx
      obtain ⟨ρ', u, w', k1, k2, k3⟩ := evRange_run (P := P) hR (evX_rel hS hx) e hf
      exact ⟨ρ', w', k3, .inl ⟨u, by simp [execOp, k1], k2⟩⟩
    · cases e
  · split at e
    · rename_i hx
      obtain ⟨u, w', k1, k2, k3⟩ := evNext_run (P := P) (t := ty) hR (evX_rel hS hx) e
      exact ⟨ρ, w', k3, .inl ⟨u, by simp [execOp, k1], k2⟩⟩
    · cases e
  · split at e
    · obtain ⟨ρ', u, w', k1, k2, k3⟩ := evMkMap_run (P := P) hR (x := none) (y := none) rfl e hf
      exact ⟨ρ', w', k3, .inl ⟨u, by simp [execOp, k1], k2⟩⟩
    · split at e
      · rename_i x _ v' hx
        obtain ⟨ρ', u, w', k1, k2, k3⟩ := evMkMap_run (P := P) hR (x := some (some v')) (y := some (a.eval x)) ⟨_, rfl, evX_rel hS hx⟩ e hf
        exact ⟨ρ', w', k3, .inl ⟨u, by simp [execOp, k1], k2⟩⟩
      · cases e
  · split at e
    · rename_i hx hk
      obtain ⟨k1, rfl, rfl⟩ := ofO_is e
      obtain ⟨u, k2, k3⟩ := evLookup_run hR (evX_rel hS hx) (evX_rel hS hk) k1
      exact Does.pure hR (by simp [execOp, k2]) k3
    · cases e
  · split at e
    · rename_i hx hk hy
      obtain ⟨w', k1, rfl, k3⟩ := evMapPut_run hR (evX_rel hS hx) (evX_rel hS hk) (evX_rel hS hy) e
      exact ⟨ρ, w', k3, .inr ⟨by simp [execOp, k1], rfl⟩⟩
    · cases e
  · split at e
    · rename_i hx hk hy
      obtain ⟨w', k1, rfl, k3⟩ := evMapPut_run hR (evX_rel hS hx) (evX_rel hS hk) (evX_rel hS hy) e
      exact ⟨ρ, w', k3, .inr ⟨by simp [execOp, k1], rfl⟩⟩
    · cases e
  · exact hp e
end Go.Proofs.YtmhnnfponloihaaDoor
