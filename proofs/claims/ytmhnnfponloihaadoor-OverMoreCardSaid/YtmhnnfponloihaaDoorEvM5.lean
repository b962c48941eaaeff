/- Maps of a closed run, of keys that are texts or numbers. No Go program in this text. -/
import Derived.Test.YtmhnnfponloihaaDoorEvM4
import Derived.Laws.BytesString
set_option linter.unusedSimpArgs false
set_option linter.unusedVariables false
namespace Go.Proofs.YtmhnnfponloihaaDoor
open Go.RowKit
variable {ρ : Map} {P : Program} {N : Nat} {h : T AO} {w : World} {nx : Nat}

/-- A map's type: 1: of texts, 2: of numbers; its keys' type, its values'. -/
def mapTy (P : Program) (t : TypeId) : Nat × TypeId × TypeId :=
  match P.underlying t with
  | some (.map k e) => match P.underlying k with
    | some .string => (1, k, e)
    | some (.int _) => (2, k, e)
    | _ => (0, 0, 0)
  | _ => (0, 0, 0)
/-- What keys' types are. -/
def KTy (kd : Nat) (d : TypeDesc) : Prop := (kd = 1 ∧ d = .string) ∨ (kd = 2 ∧ ∃ k, d = .int k)
theorem mapTy_is {t k e : TypeId} {kd : Nat} (h : mapTy P t = (kd, k, e)) (h0 : kd ≠ 0) : P.underlying t = some (.map k e) ∧ ∃ d, P.underlying k = some d ∧ KTy kd d := by
  unfold mapTy at h
  split at h
  · rename_i k' e' hu
    split at h
    · rename_i hk; cases h; exact ⟨hu, _, hk, .inl ⟨rfl, rfl⟩⟩
    · rename_i kk hk; cases h; exact ⟨hu, _, hk, .inr ⟨rfl, _, rfl⟩⟩
    · cases h; exact absurd rfl h0
  · cases h; exact absurd rfl h0
theorem bytes_beq (s u : ByteArray) : (s == u) = decide (s = u) := by
  cases s with
  | mk s => cases u with
    | mk u =>
      show (s == u) = _
      by_cases h : s = u
      · subst h; simp
      · simp [h]
/-- Is it the same key? -/
noncomputable def sameK (kd : Nat) (x y : AV) : Option Bool :=
  match x, y with
  | .s n d, .s m e => bif Nat.beq kd 1 then some (Nat.beq n m && Nat.beq d e) else none
  | .i j a, .i k b => bif Nat.beq kd 2 && eqK j k then some (eqI a b) else none
  | _, _ => none
theorem sameK_is {kd : Nat} {d : TypeDesc} (hd : KTy kd d) {x y : AV} {x' y' : Value} (hx : VRel ρ x x') (hy : VRel ρ y y') {b : Bool} (h : sameK kd x y = some b) : Instr.sameNow d x' y' = some b ∧ (b = true → y' = x' ∧ Instr.sameBits 10000 y' x' = true) := by
  unfold sameK at h
  split at h
  · rename_i n dd m e
    obtain ⟨s, rfl, hs⟩ := hx
    obtain ⟨u, rfl, hu⟩ := hy
    cases hb : Nat.beq kd 1 with
    | false => rw [hb, cond_false] at h; cases h
    | true =>
      rw [hb, cond_true] at h; cases h
      rw [Nat.beq_eq] at hb
      rcases hd with ⟨_, rfl⟩ | ⟨h2, _⟩
      · have hq := hs.eq_iff hu
        have e1 : (Nat.beq n m && Nat.beq dd e) = decide (s = u) := by
          rw [Bool.eq_iff_iff, Bool.and_eq_true, Nat.beq_eq, Nat.beq_eq, decide_eq_true_iff, hq]
        refine ⟨?_, fun hh => ?_⟩
        · simp only [Instr.sameNow, e1]
          congr 1
          exact bytes_beq s u
        · rw [e1, decide_eq_true_iff] at hh
          subst hh
          exact ⟨rfl, by
            show (s == s) = true
            rw [bytes_beq]; simp⟩
      · omega
  · rename_i j a k c
    cases hx; cases hy
    cases hb : (Nat.beq kd 2 && eqK j k) with
    | false => rw [hb, cond_false] at h; cases h
    | true =>
      rw [hb, cond_true] at h; cases h
      rw [Bool.and_eq_true, Nat.beq_eq] at hb
      obtain ⟨h2, h3⟩ := hb
      have := eqK_eq h3; subst this
      rcases hd with ⟨h1, _⟩ | ⟨_, kk, rfl⟩
      · omega
      · rw [eqI_eq]
        refine ⟨?_, fun hh => ?_⟩
        · simp only [Instr.sameNow, if_true]
          congr 1
        · rw [decide_eq_true_iff] at hh
          subst hh
          exact ⟨rfl, by simp [Instr.sameBits]⟩
  · cases h
noncomputable def fndK (kd : Nat) (k : AV) : List (AV × AV) → Nat → Option (Option (Nat × AV))
  | [], _ => some none
  | x :: l, i => match sameK kd k x.1 with
    | some true => some (some (i, x.2))
    | some false => fndK kd k l (Nat.succ i)
    | none => none
theorem fndK_is {kd : Nat} {d : TypeDesc} (hd : KTy kd d) {k : AV} {k' : Value} (hk : VRel ρ k k') : ∀ {l : List (AV × AV)} {m : List MapEntry} {i : Nat} {r : Option (Nat × AV)}, MRel ρ l m → fndK kd k l i = some r →
    match r with
    | none => Instr.findNow d k' m i = some none
    | some (j, v) => ∃ u e, Instr.findNow d k' m i = some (some (j, u)) ∧ VRel ρ v u ∧ i ≤ j ∧ m[j - i]? = some e ∧ e.key = k' ∧ Instr.sameBits 10000 e.key k' = true
  | [], m, i, r, hm, h => by
    simp only [MRel] at hm; subst hm
    simp only [fndK] at h; cases h; rfl
  | x :: l, m, i, r, hm, h => by
    obtain ⟨e, m', rfl, h1, h2, h3⟩ := hm
    simp only [fndK] at h
    split at h
    · rename_i hs
      cases h
      obtain ⟨q1, q2⟩ := sameK_is hd hk h1 hs
      exact ⟨e.val, e, by simp only [Instr.findNow, q1], h2, Nat.le_refl _, by simp, (q2 rfl).1, (q2 rfl).2⟩
    · rename_i hs
      obtain ⟨q1, _⟩ := sameK_is hd hk h1 hs
      have ih := fndK_is hd hk (i := Nat.succ i) h3 h
      cases r with
      | none => simp only at ih ⊢; simp only [Instr.findNow, q1]; exact ih
      | some jv =>
        obtain ⟨j, v⟩ := jv
        obtain ⟨u, e2, g1, g2, g3, g4, g5⟩ := ih
        have g3' : i + 1 ≤ j := g3
        refine ⟨u, e2, by simp only [Instr.findNow, q1]; exact g1, g2, by omega, ?_, g5⟩
        have : j - i = (j - (i + 1)) + 1 := by omega
        rw [this]; simpa using g4
    · cases h
theorem findKey_run {kd : Nat} {d : TypeDesc} (hd : KTy kd d) {kt : TypeId} (hu : P.underlying kt = some d) {k' : Value} {m : List MapEntry} {r : Option (Nat × Value)} (h : Instr.findNow d k' m 0 = some r) (w : World) : (Instr.findKey kt k' m).run P w = .ok r w := by
  simp [Instr.findKey, run_underlying hu, h]
theorem checkKey_run {kd : Nat} {d : TypeDesc} (hd : KTy kd d) {kt : TypeId} (hu : P.underlying kt = some d) (b : Bool) (k' : Value) (w : World) : (Instr.checkKey b 10000 kt k').run P w = .ok () w := by
  have he : Instr.checkKey b 10000 kt k' = Instr.checkKey b (9999 + 1) kt k' := rfl
  rw [he]; clear he
  generalize 9999 = dp
  rcases hd with ⟨_, rfl⟩ | ⟨_, kk, rfl⟩ <;> simp [Instr.checkKey, run_underlying hu]
theorem lookup_run {kd : Nat} {d : TypeDesc} (hd : KTy kd d) {t kt el : TypeId} (hu : P.underlying t = some (.map kt el)) (hk : P.underlying kt = some d) {x' k' : Value} {es : Array MapEntry} {w : World}
    (hx : (x' = .map none ∧ es = #[]) ∨ ∃ b clock, x' = .map (some b) ∧ w.heap[b]? = some (.map es clock)) {ok : Bool} {r : Option (Nat × Value)} (hr : Instr.findNow d k' es.toList 0 = some r) :
    (r = none → ∀ z, (zeroValue el).run P w = .ok z w → (Instr.lookup t x' k' ok).run P w = .ok (if ok then .tuple #[z, .bool false] else z) w) ∧ (∀ j u, r = some (j, u) → (Instr.lookup t x' k' ok).run P w = .ok (if ok then .tuple #[u, .bool true] else u) w) := by
  have hf := findKey_run (P := P) hd hk hr w
  have hc := fun b => checkKey_run (P := P) hd hk b k' w
  constructor
  · rintro rfl z hz
    rcases hx with ⟨rfl, rfl⟩ | ⟨b, clock, rfl, hb⟩
    · simp [Instr.lookup, run_underlying hu, hc, hf, hz] at hf ⊢
    · simp [Instr.lookup, run_underlying hu, getObj, Sem.run, hb, hc, hf, hz]
  · rintro j u rfl
    rcases hx with ⟨rfl, rfl⟩ | ⟨b, clock, rfl, hb⟩
    · simp [Instr.findNow] at hr
    · simp [Instr.lookup, run_underlying hu, getObj, Sem.run, hb, hc, hf]
/-- A new map. -/
noncomputable def evMkMap (P : Program) (h : T AO) (nx : Nat) (t : TypeId) (x : Option (Option AV)) : R :=
  match mapTy P t with
  | (0, _, _) => .bad
  | _ => match x with
    | none => (h.put nx (.mps [])).seq fun h => .ok (.mp nx) h (Nat.succ nx)
    | some (some (.i _ _)) => (h.put nx (.mps [])).seq fun h => .ok (.mp nx) h (Nat.succ nx)
    | _ => .bad
theorem evMkMap_run (hR : Rel ρ h.get w) {t : TypeId} {x : Option (Option AV)} {y : Option Value} (hx : match x with | none => y = none | some (some a) => ∃ v, y = some v ∧ VRel ρ a v | _ => True) {r : AV} {h' : T AO} {nx' : Nat} (e : evMkMap P h nx t x = .ok r h' nx') (hf : Fr ρ nx nx') :
    ∃ ρ' u w', (Instr.makeMap t y).run P w = .ok u w' ∧ VRel ρ' r u ∧ Stp ρ ρ' h.get h'.get w w' nx nx' := by
  unfold evMkMap at e
  split at e
  · cases e
  · rename_i p hne
    obtain ⟨hu, d, hk, hd⟩ := mapTy_is (P := P) (t := t) (kd := (mapTy P t).1) (k := (mapTy P t).2.1) (e := (mapTy P t).2.2) rfl (fun h0 => by
      apply hne (mapTy P t).2.1 (mapTy P t).2.2
      rw [← h0])
    have fin : ∀ (y : Option Value), (y = none ∨ ∃ k n, y = some (.int k n)) → (h.put nx (.mps [])).seq (fun h => R.ok (.mp nx) h (Nat.succ nx)) = .ok r h' nx' → ∃ ρ' u w', (Instr.makeMap t y).run P w = .ok u w' ∧ VRel ρ' r u ∧ Stp ρ ρ' h.get h'.get w w' nx nx' := by
      intro y hy e
      rw [T.seq_eq] at e; cases e
      have hf' : ρ nx = none := hf nx (Nat.le_refl _) (Nat.lt_succ_self _)
      refine ⟨ρ.set nx (w.heap.size, 0), .map (some w.heap.size), w.alloc (.map #[] 0), ?_, ⟨_, _, set_self _ _ _, rfl⟩, Stp.new_ hR hf' (.map #[] 0) (.mps []) 0 ⟨#[], 0, rfl, rfl⟩ _ rfl rfl rfl rfl⟩
      rcases hy with rfl | ⟨k, n, rfl⟩
      · simp [Instr.makeMap, World.alloc_eq]
      · simp [Instr.makeMap, run_underlying hu, World.alloc_eq, asInt, asIntOf]
    split at e
    · simp only at hx; subst hx; exact fin none (.inl rfl) e
    · obtain ⟨v, rfl, hv⟩ := hx
      cases hv
      exact fin _ (.inr ⟨_, _, rfl⟩) e
    · cases e
noncomputable def mapOf (h : T AO) (x : AV) : Option (List (AV × AV)) :=
  match x with
  | .nm => some []
  | .mp id => match h.get id with | some (.mps l) => some l | _ => none
  | _ => none
noncomputable def evLookup (P : Program) (h : T AO) (t : TypeId) (x k : AV) (ok : Bool) : Option AV :=
  match mapTy P t with
  | (0, _, _) => none
  | (kd, _, e) => match mapOf h x with
    | some l => match fndK kd k l 0 with
      | some (some (_, v)) => some (bif ok then .tup (.cons v (.cons (.b true) .nil)) else v)
      | some none => match zeroTy P e with
        | some z => some (bif ok then .tup (.cons z (.cons (.b false) .nil)) else z)
        | none => none
      | none => none
    | none => none
theorem mapOf_is (hR : Rel ρ h.get w) {x : AV} {x' : Value} (hx : VRel ρ x x') {l : List (AV × AV)} (e : mapOf h x = some l) :
    (x' = .map none ∧ l = []) ∨ ∃ id b C es clock, x = .mp id ∧ h.get id = some (.mps l) ∧ ρ id = some (b, C) ∧ x' = .map (some b) ∧ w.heap[b]? = some (.map es clock) ∧ MRel ρ l es.toList := by
  unfold mapOf at e
  split at e
  · cases hx; cases e; exact .inl ⟨rfl, rfl⟩
  · rename_i id
    split at e
    · rename_i l' hid
      cases e
      obtain ⟨b, C, hb, rfl⟩ := hx
      obtain ⟨b', C', ob, k1, k2, k3⟩ := hR.has id _ hid
      rw [hb] at k1; cases k1
      obtain ⟨es, clock, rfl, hm⟩ := k3
      exact .inr ⟨id, b, C, es, clock, rfl, hid, hb, rfl, k2, hm⟩
    · cases e
  · cases e
theorem evLookup_run (hR : Rel ρ h.get w) {t : TypeId} {x k : AV} {x' k' : Value} (hx : VRel ρ x x') (hk : VRel ρ k k') {ok : Bool} {v : AV} (e : evLookup P h t x k ok = some v) : ∃ u, (Instr.lookup t x' k' ok).run P w = .ok u w ∧ VRel ρ v u := by
  unfold evLookup at e
  split at e
  · cases e
  · rename_i kd kt el hne hmt
    obtain ⟨hu, d, hkt, hd⟩ := mapTy_is (P := P) hmt hne
    split at e
    · rename_i l hl
      have hm : ∃ es : Array MapEntry, MRel ρ l es.toList ∧ ((x' = .map none ∧ es = #[]) ∨ ∃ b clock, x' = .map (some b) ∧ w.heap[b]? = some (.map es clock)) := by
        rcases mapOf_is hR hx hl with ⟨rfl, rfl⟩ | ⟨id, b, C, es, clock, rfl, _, _, rfl, hb, hm⟩
        · exact ⟨#[], rfl, .inl ⟨rfl, rfl⟩⟩
        · exact ⟨es, hm, .inr ⟨b, clock, rfl, hb⟩⟩
      obtain ⟨es, hm, hxx⟩ := hm
      split at e
      · rename_i j v' hf
        cases e
        obtain ⟨u, en, g1, g2, _⟩ := fndK_is hd hk hm hf
        have g := (lookup_run (ok := ok) hd hu hkt hxx g1).2 j u rfl
        cases ok with
        | true => exact ⟨_, g, _, rfl, u, _, rfl, g2, _, _, rfl, rfl, rfl⟩
        | false => exact ⟨_, g, g2⟩
      · rename_i hf
        split at e
        · rename_i z hz
          cases e
          obtain ⟨z', h1, h2⟩ := zero_run (ρ := ρ) hz
          have g := (lookup_run (ok := ok) hd hu hkt hxx (fndK_is hd hk hm hf)).1 rfl z' (h1 w)
          cases ok with
          | true => exact ⟨_, g, _, rfl, z', _, rfl, h2, _, _, rfl, rfl, rfl⟩
          | false => exact ⟨_, g, h2⟩
        · cases e
      · cases e
    · cases e
noncomputable def setL (x : AV × AV) : List (AV × AV) → Nat → List (AV × AV)
  | [], _ => []
  | _ :: l, 0 => x :: l
  | y :: l, i + 1 => y :: setL x l i
theorem setL_rel {x : AV × AV} {k' v' : Value} (hk : VRel ρ x.1 k') (hv : VRel ρ x.2 v') : ∀ {l : List (AV × AV)} {m : List MapEntry} {i : Nat}, MRel ρ l m → MRel ρ (setL x l i) (m.modify i fun e => { e with key := k', val := v' })
  | [], m, i, h => by simp only [MRel] at h; subst h; simp [setL, MRel]
  | y :: l, m, 0, ⟨e, r, e1, h1, h2, h3⟩ => by subst e1; exact ⟨{ e with key := k', val := v' }, r, by simp, hk, hv, h3⟩
  | y :: l, m, i + 1, ⟨e, r, e1, h1, h2, h3⟩ => by subst e1; exact ⟨e, _, by simp, h1, h2, setL_rel hk hv h3⟩
theorem MRel.push {x : AV × AV} {e : MapEntry} (hk : VRel ρ x.1 e.key) (hv : VRel ρ x.2 e.val) : ∀ {l : List (AV × AV)} {m : List MapEntry}, MRel ρ l m → MRel ρ (l ++ [x]) (m ++ [e])
  | [], m, h => by simp only [MRel] at h; subst h; exact ⟨e, [], rfl, hk, hv, rfl⟩
  | y :: l, m, ⟨e', r, e1, h1, h2, h3⟩ => by subst e1; exact ⟨e', _, rfl, h1, h2, MRel.push hk hv h3⟩
/-- A value laid into a map. -/
noncomputable def evMapPut (P : Program) (h : T AO) (nx : Nat) (t : TypeId) (x k v : AV) : R :=
  match mapTy P t with
  | (0, _, _) => .bad
  | (kd, _, _) => match x with
    | .mp id => match h.get id with
      | some (.mps l) => match fndK kd k l 0 with
        | some (some (i, _)) => (h.put id (.mps (setL (k, v) l i))).seq fun h => .ok (.tup .nil) h nx
        | some none => (h.put id (.mps (l ++ [(k, v)]))).seq fun h => .ok (.tup .nil) h nx
        | none => .bad
      | _ => .bad
    | _ => .bad
theorem evMapPut_run (hR : Rel ρ h.get w) {t : TypeId} {x k v : AV} {x' k' v' : Value} (hx : VRel ρ x x') (hk : VRel ρ k k') (hv : VRel ρ v v') {r : AV} {h' : T AO} {nx' : Nat} (e : evMapPut P h nx t x k v = .ok r h' nx') :
    ∃ w', (Instr.mapUpdate t x' k' v').run P w = .ok () w' ∧ r = .tup .nil ∧ Stp ρ ρ h.get h'.get w w' nx nx' := by
  unfold evMapPut at e
  split at e
  · cases e
  · rename_i kd kt el hne hmt
    obtain ⟨hu, d, hkt, hd⟩ := mapTy_is (P := P) hmt hne
    split at e
    · rename_i id
      split at e
      · rename_i l hid
        obtain ⟨b, C, hb, rfl⟩ := hx
        obtain ⟨b', C', ob, k1, k2, k3⟩ := hR.has id _ hid
        rw [hb] at k1; cases k1
        obtain ⟨es, clock, rfl, hm⟩ := k3
        have hblt := (Array.getElem?_eq_some_iff.1 k2).1
        have hc := checkKey_run (P := P) hd hkt false k' w
        have upd : ∀ (o : Obj) (a1 : AO), ORel ρ C a1 o → Stp ρ ρ h.get (h.put id a1).get w { w with heap := w.heap.setIfInBounds b o } nx nx := fun o a1 ho =>
          Stp.upd hR hid hb (o := o) ho _ rfl rfl rfl (by simp) (by simp [hblt]) fun k hk => by simp only [Array.getElem?_setIfInBounds]; rw [if_neg (Ne.symm hk)]
        split at e
        · rename_i i v0 hf
          rw [T.seq_eq] at e; cases e
          obtain ⟨u, en, g1, g2, _, g4, g5, g6⟩ := fndK_is hd hk hm hf
          have hq := findKey_run (P := P) hd hkt g1 w
          have g4' : es[i]? = some en := by simpa using g4
          have hkey : (Instr.keyThatStays (((es[i]?).map (·.key)).getD k') k').run P w = .ok k' w := by
            rw [g4']
            show (Instr.keyThatStays en.key k').run P w = .ok k' w
            unfold Instr.keyThatStays
            rw [if_pos g6]; rfl
          refine ⟨{ w with heap := w.heap.setIfInBounds b (.map (es.modify i fun e => { e with key := k', val := v' }) clock) }, ?_, rfl, upd _ _ ⟨_, clock, rfl, by rw [Array.toList_modify]; exact setL_rel hk hv hm⟩⟩
          simp only [Instr.mapUpdate, Sem.run_bind, run_underlying hu, Result.andThen_ok, getObj, setObj, Sem.run, k2, hc, hq, hkey]
        · rename_i hf
          rw [T.seq_eq] at e; cases e
          have hq := findKey_run (P := P) hd hkt (fndK_is hd hk hm hf) w
          refine ⟨{ w with heap := w.heap.setIfInBounds b (.map (es.push { key := k', val := v', born := clock }) (clock + 1)) }, ?_, rfl, upd _ _ ⟨_, clock + 1, rfl, by rw [Array.toList_push]; exact MRel.push (x := (k, v)) hk hv hm⟩⟩
          simp only [Instr.mapUpdate, Sem.run_bind, run_underlying hu, Result.andThen_ok, getObj, setObj, Sem.run, k2, hc, hq]
        · cases e
      · cases e
    · cases e
/-- A row of bytes as a text. -/
def bsTy (P : Program) (s d : TypeId) : Bool :=
  match P.underlying s, P.underlying d with
  | some (.slice e), some .string => match P.underlying e with | some (.int .u8) => true | _ => false
  | _, _ => false
theorem bsTy_is {s d : TypeId} (h : bsTy P s d = true) : ∃ e, P.underlying s = some (.slice e) ∧ P.underlying e = some (.int .u8) ∧ P.underlying d = some .string := by
  unfold bsTy at h
  split at h
  · rename_i e h1 h2
    split at h
    · rename_i h3; exact ⟨e, h1, h3, h2⟩
    · cases h
  · cases h
noncomputable def bStr (h : T AO) (id off len : Nat) : Option AV :=
  match h.get id with
  | some o => match o.rd with
    | some tr => match readN tr len off with
      | some l => match bytesNum l with
        | some d => some (.s len d)
        | none => none
      | none => none
    | none => none
  | none => none
noncomputable def evBStr (h : T AO) (x : AV) : Option AV :=
  match x with
  | .ns => some (.s 0 0)
  | .sl id off len _ => bStr h id off len
  | .su id off len => bif Nat.ble 1 len then bStr h id off len else none
  | .gs id len => bStr h id 0 len
  | _ => none
theorem push_bytes : ∀ (bs : List UInt8) (s : ByteArray), (bs.map fun b => (b.toNat : Int)).foldl (fun r n => r.push (UInt8.ofNat n.toNat)) s = ⟨s.data ++ bs.toArray⟩
  | [], s => by simp
  | b :: bs, s => by
    rw [List.map_cons, List.foldl_cons, push_bytes bs]
    have : UInt8.ofNat ((b.toNat : Int)).toNat = b := by simp
    rw [this]
    cases s
    simp [ByteArray.push]
theorem bStr_run (hR : Rel ρ h.get w) {id off len b C cap : Nat} (hb : ρ id = some (b, C)) {v : AV} (e : bStr h id off len = some v) : ∃ s, (Conv.bytesToString (.slice (some ⟨b, off, none⟩) len cap)).run P w = .ok (.string s) w ∧ VRel ρ v (.string s) := by
  unfold bStr at e
  split at e
  · rename_i o hid
    split at e
    · rename_i tr htr
      split at e
      · rename_i l hl
        split at e
        · rename_i d hd
          cases e
          obtain ⟨cc, et, ft, hblk, hcr⟩ := rel_read hR hid htr hb
          obtain ⟨m, hm, hmr, _, hrun⟩ := readN_run (P := P) hblk hcr hl
          obtain ⟨bs, rfl, hn⟩ := bytesNum_rel hd hmr
          have hlen : bs.length = len := by simpa using hm
          have hmm : bs.map (fun b => Value.int .u8 (b.toNat : Int)) = (bs.map fun b => (b.toNat : Int)).map (Value.int .u8) := by simp
          rw [hmm] at hrun
          refine ⟨_, run_bytesToString w _ len cap _ hrun, ⟨_, rfl, ?_⟩⟩
          rw [push_bytes]
          refine ⟨?_, ?_⟩
          · show (#[] ++ bs.toArray).toList = bytesOf len d
            rw [← hn, ← hlen, bytesOf_numOf]; simp
          · rw [← hn, ← hlen]; exact numOf_lt bs
        · cases e
      · cases e
    · cases e
  · cases e
theorem evBStr_run (hR : Rel ρ h.get w) {s d : TypeId} (hT : bsTy P s d = true) {x : AV} {x' : Value} (hx : VRel ρ x x') {v : AV} (e : evBStr h x = some v) : ∃ u, (convert s d x').run P w = .ok u w ∧ VRel ρ v u := by
  obtain ⟨el, h1, h2, h3⟩ := bsTy_is hT
  unfold evBStr at e
  split at e
  · cases hx; cases e
    exact ⟨.string .empty, by rw [run_convert_bytes_string w s d el _ _ _ h1 h2 h3]; rfl, ⟨.empty, rfl, rfl, by simp⟩⟩
  · obtain ⟨b, C, hb, rfl⟩ := hx
    obtain ⟨u, g1, g2⟩ := bStr_run (P := P) hR hb e
    exact ⟨_, by rw [run_convert_bytes_string w s d el _ _ _ h1 h2 h3]; exact g1, g2⟩
  · rename_i id off len
    obtain ⟨hl, e2⟩ := bif_some' e
    rw [Nat.ble_eq] at hl
    obtain ⟨b, C, o, c, hb, rfl, _, ho⟩ := hx
    have := ho hl
    subst this
    obtain ⟨u, g1, g2⟩ := bStr_run (P := P) hR hb e2
    exact ⟨_, by rw [run_convert_bytes_string w s d el _ _ _ h1 h2 h3]; exact g1, g2⟩
  · obtain ⟨b, C, hb, rfl, _⟩ := hx
    obtain ⟨u, g1, g2⟩ := bStr_run (P := P) hR hb e
    exact ⟨_, by rw [run_convert_bytes_string w s d el _ _ _ h1 h2 h3]; exact g1, g2⟩
  · cases e
noncomputable def evConvM (P : Program) (h : T AO) (s d : TypeId) (x : AV) : Option AV := bif bsTy P s d then evBStr h x else evUns P h s d x
theorem evConvM_run (hR : Rel ρ h.get w) {s d : TypeId} {x : AV} {x' : Value} (hx : VRel ρ x x') {v : AV} (e : evConvM P h s d x = some v) : ∃ u, (convert s d x').run P w = .ok u w ∧ VRel ρ v u := by
  unfold evConvM at e
  cases hT : bsTy P s d with
  | true => rw [hT, cond_true] at e; exact evBStr_run hR hT hx e
  | false => rw [hT, cond_false] at e; exact evUns_run hR hx e
end Go.Proofs.YtmhnnfponloihaaDoor
