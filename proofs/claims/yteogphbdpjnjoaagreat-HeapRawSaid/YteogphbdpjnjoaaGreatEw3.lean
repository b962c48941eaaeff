/- A closed run, run by the kernel: part 3 of 6. No Go program in this text. -/
import Derived.Test.YteogphbdpjnjoaaGreatEw2
import Derived.Lib.AppendZerosOnto
import Derived.Laws.BytesString
import Derived.LaidEql
import Derived.WideKeyRuns
import Derived.TacticsIn
import Derived.RangeFuncLeaves
import Derived.RangeFuncRecord
set_option linter.unusedSimpArgs false
set_option linter.unusedVariables false
namespace Go.Proofs.YteogphbdpjnjoaaGreat
open Go.RowKit
variable {ρ : Map} {P : Program} {N : Nat} {sl : T AV} {a : Act} {h : T AO} {w : World} {nx : Nat}

def intTy (P : Program) (u : TypeId) : Bool := match P.underlying u with | some (.int _) => true | _ => false
noncomputable def evAppZ (P : Program) (h : T AO) (nx : Nat) (t u : TypeId) (s x : AV) : R :=
  match makeTy P t, s, x with
  | some (e, z, by_, zv), .ns, .i _ k => match natOf k with
    | some n => bif intTy P u && (Nat.ble 1 n && fitB n by_) then
        (h.put nx (.grow (ofA (repl n zv.cells) 0 .nil) (Nat.mul n z) z e)).seq fun h => .ok (.gs nx n) h (Nat.succ nx) else .bad
    | none => .bad
  | some (e, z, by_, zv), .sl id off len cap, .i _ k => match natOf k, h.get id with
    | some n, some o => match o.tr with
      | some tr => bif intTy P u && (Nat.ble 1 n && (Nat.ble (Nat.succ cap) (Nat.add len n) && fitB (Nat.add len n) by_)) then
          match readN tr (Nat.mul len z) off with
          | some old => (h.put nx (.grow (ofA (old.app (repl n zv.cells)) 0 .nil) (Nat.mul (Nat.add len n) z) z e)).seq fun h => .ok (.gs nx (Nat.add len n)) h (Nat.succ nx)
          | none => .bad
        else .bad
      | none => .bad
    | _, _ => .bad
  | _, _, _ => .bad
theorem evAppZ_run (hR : Rel ρ h.get w) {t u ty : TypeId} {s x : AV} {s' x' : Value} (hs : VRel ρ s s') (hx : VRel ρ x x') {r : AV} {h' : T AO} {nx' : Nat} (e : evAppZ P h nx t u s x = .ok r h' nx') (hf : Fr ρ nx nx') :
    ∃ ρ' v w', (Builtin.append_ #[t, u] ty #[s', x']).run P w = .ok v w' ∧ VRel ρ' r v ∧ Stp ρ ρ' h.get h'.get w w' nx nx' := by
  unfold evAppZ at e
  split at e
  · rename_i el n b z k1 x1 hT
    split at e
    · rename_i l hl
      obtain ⟨h1, e⟩ := bif_ok e
      rw [Bool.and_eq_true, Bool.and_eq_true, Nat.ble_eq] at h1
      obtain ⟨hint, hl1, hfit⟩ := h1
      obtain ⟨f1, f2⟩ := fitB_is hfit
      rw [T.seq_eq] at e; cases e
      have e1 := natOf_eq hl; subst e1
      cases hs; cases hx
      have hf' : ρ nx = none := hf nx (Nat.le_refl _) (Nat.lt_succ_self _)
      obtain ⟨kn, htn⟩ : ∃ kn, P.underlying u = some (.int kn) := by
        unfold intTy at hint
        split at hint
        · rename_i kn h; exact ⟨kn, h⟩
        · cases hint
      unfold makeTy at hT
      split at hT
      · rename_i e' n' z' hrow
        split at hT <;> cases hT
        rename_i i hi
        obtain ⟨hu, hn, hz, hzl, hn0⟩ := rowTy_is hrow
        have hsz : i.size = n := by unfold sizeTy at hn; simpa [hi] using hn
        obtain ⟨zr, hzr, hzv⟩ : ∃ zr, i.zero = some zr ∧ VRel ρ z zr := by
          unfold zeroTy at hz
          simp only [hi] at hz
          cases g : i.zero with
          | none => simp [g] at hz
          | some zr =>
            simp only [g] at hz
            exact ⟨zr, rfl, ofV_rel hz⟩
        have hzc := hzv.cells
        have hzs : zr.cells.size = n := by have := hzc.len; rw [hzl] at this; simpa using this.symm
        have hrr := repl_rel hzc l
        have hcells : (Builtin.zeroCells zr.cells l).toList = (List.replicate l zr.cells.toList).flatten := rangeZ zr.cells l (by omega)
        have hns : Builtin.nextslicecap (0 + l) 0 ≤ 2 * (0 + l) := nextslicecap_le (by omega)
        have hcap : Builtin.nextslicecap (0 + l) 0 * i.bytes ≤ 281474976710656 := Nat.le_trans (Nat.mul_le_mul_right _ hns) (by simpa using f1)
        have h48 : l * i.bytes ≤ 281474976710656 := Nat.le_trans (Nat.mul_le_mul_right _ (by omega)) f1
        have hrun := Lib.run_append_grow_zeros (P := P) w t u ty el i zr k1 kn hu htn hi hzr none 0 0 [] (by simp [Builtin.firstCells]) l (by omega) (by omega) (by omega) (by omega) h48 hcap
        refine ⟨_, _, _, hrun, ⟨w.heap.size, grownCap w (0 + l) 0 el, set_self _ _ _, by simp, by have := grownCap_ge w (0 + l) 0 el; omega⟩,
          grow_stp hR hf' el hrr hn0 (by rw [hrr.len, ← hcells]; simp [Builtin.zeroCells, hzs]) (by have := grownCap_ge w (0 + l) 0 el; omega) (Builtin.zeroCells zr.cells (grownCap w (0 + l) 0 el - (0 + l))) (by rw [size_zeroCells, hzs, Nat.sub_mul]; simp) _ rfl rfl rfl ?_⟩
        show w.heap.push _ = _
        rw [← hcells]; simp
      · cases hT
    · cases e
  · rename_i el z b zv id off len cap k1 x1 hT
    split at e
    · rename_i l o hl hid
      split at e
      · rename_i tr htr
        obtain ⟨h1, e2⟩ := bif_ok e
        clear e; have e := e2; clear e2
        rw [Bool.and_eq_true, Bool.and_eq_true, Bool.and_eq_true, Nat.ble_eq, Nat.ble_eq] at h1
        obtain ⟨hint, hl1, hcl, hfit⟩ := h1
        obtain ⟨f1, f2⟩ := fitB_is hfit
        split at e
        · rename_i old hold
          rw [T.seq_eq] at e; cases e
          have e1 := natOf_eq hl; subst e1
          obtain ⟨bb, C, hb, rfl⟩ := hs
          cases hx
          have hf' : ρ nx = none := hf nx (Nat.le_refl _) (Nat.lt_succ_self _)
          obtain ⟨kn, htn⟩ : ∃ kn, P.underlying u = some (.int kn) := by
            unfold intTy at hint
            split at hint
            · rename_i kn h; exact ⟨kn, h⟩
            · cases hint
          unfold makeTy at hT
          split at hT
          · rename_i e' n' z' hrow
            split at hT <;> cases hT
            rename_i i hi
            obtain ⟨hu, hn, hz, hzl, hn0⟩ := rowTy_is hrow
            have hsz : i.size = z := by unfold sizeTy at hn; simpa [hi] using hn
            obtain ⟨zr, hzr, hzv⟩ : ∃ zr, i.zero = some zr ∧ VRel ρ zv zr := by
              unfold zeroTy at hz
              simp only [hi] at hz
              cases g : i.zero with
              | none => simp [g] at hz
              | some zr =>
                simp only [g] at hz
                exact ⟨zr, rfl, ofV_rel hz⟩
            have hzc := hzv.cells
            have hzs : zr.cells.size = z := by have := hzc.len; rw [hzl] at this; simpa using this.symm
            have hrr := repl_rel hzc l
            have hcells : (Builtin.zeroCells zr.cells l).toList = (List.replicate l zr.cells.toList).flatten := rangeZ zr.cells l (by omega)
            have hcl' : cap < len + l := hcl
            have f1' : 2 * (len + l) * i.bytes ≤ 281474976710656 := f1
            have f2' : len + l ≤ 9223372036854775807 := f2
            have hns : Builtin.nextslicecap (len + l) cap ≤ 2 * (len + l) := nextslicecap_le (by omega)
            have hcap : Builtin.nextslicecap (len + l) cap * i.bytes ≤ 281474976710656 := Nat.le_trans (Nat.mul_le_mul_right _ hns) f1'
            have h48 : l * i.bytes ≤ 281474976710656 := Nat.le_trans (Nat.mul_le_mul_right _ (by omega)) f1'
            obtain ⟨cc, hblk, hcr⟩ := rel_block hR hid htr hb
            obtain ⟨om, hom, homr, hocell, _⟩ := readN_run (P := P) hblk hcr hold
            have hfc : (Builtin.firstCells i.size len (.slice (some ⟨bb, off, none⟩) len cap)).run P w.drew = .ok om.toArray w.drew := by
              have := loadCells_same (P := P) (w' := w.drew) rfl hocell
              rw [hom] at this
              rw [hsz]
              simp only [Builtin.firstCells]; exact this
            have hrun := Lib.run_append_grow_zeros (P := P) w t u ty el i zr k1 kn hu htn hi hzr (some ⟨bb, off, none⟩) len cap om hfc l (by omega) (by omega) (by omega) (by omega) h48 hcap
            have hlen : (old.app (repl l zv.cells)).len = (len + l) * z := by
              have := (homr.app hrr).len
              rw [this, List.length_append, hom, ← hcells]
              simp [Builtin.zeroCells, hzs, Nat.add_mul]
            refine ⟨_, _, _, hrun, ⟨w.heap.size, grownCap w (len + l) cap el, set_self _ _ _, rfl, grownCap_ge w (len + l) cap el⟩,
              grow_stp hR hf' el (homr.app hrr) hn0 hlen (grownCap_ge w (len + l) cap el) (Builtin.zeroCells zr.cells (grownCap w (len + l) cap el - (len + l))) (by rw [size_zeroCells, hzs, Nat.sub_mul]) _ rfl rfl rfl ?_⟩
            have hap : (om ++ (Builtin.zeroCells zr.cells l).toList).toArray = om.toArray ++ Builtin.zeroCells zr.cells l := by apply Array.ext'; simp
            show w.heap.push _ = _
            rw [← hcells, hap]
          · cases hT
        · cases e
      · cases e
    · cases e
  · cases e
end Go.Proofs.YteogphbdpjnjoaaGreat
namespace Go.Proofs.YteogphbdpjnjoaaGreat
open Go.RowKit
variable {ρ : Map} {P : Program} {N : Nat} {h : T AO} {w : World} {nx : Nat}

/-- What parts a key that is a struct may have. -/
def keyFld (P : Program) (t : TypeId) : Bool :=
  match P.underlying t with
  | some (.int _) => true
  | some .string => true
  | some (.pointer _) => true
  | _ => false
/-- A struct whose parts lie cell by cell, all of them plain. -/
def keyFlds (P : Program) : List Field → Nat → Bool
  | [], _ => true
  | f :: fs, i => (!(f.name == "_") && (Nat.beq f.offset i && (Nat.beq (aggTy P f.type) 2 && keyFld P f.type))) && keyFlds P fs (Nat.succ i)
def keyStr (P : Program) (t : TypeId) : Bool := !P.stoodInHeld t && keyFlds P (P.fieldsOf t).toList 0
/-- A map's type: 1: of texts, 2: of numbers, 3: of structs; its keys' type, its values'. -/
def mapTy (P : Program) (t : TypeId) : Nat × TypeId × TypeId :=
  match P.underlying t with
  | some (.map k e) => match P.underlying k with
    | some .string => (1, k, e)
    | some (.int _) => (2, k, e)
    | some (.struct _) => bif keyStr P k then (3, k, e) else (0, 0, 0)
    | _ => (0, 0, 0)
  | _ => (0, 0, 0)
/-- What keys' types are. -/
def KTy (kd : Nat) (d : TypeDesc) : Prop := (kd = 1 ∧ d = .string) ∨ (kd = 2 ∧ ∃ k, d = .int k)
def KTys (P : Program) (kd : Nat) (k : TypeId) : Prop := (∃ d, P.underlying k = some d ∧ KTy kd d) ∨ (kd = 3 ∧ P.underlying k = some (.struct (P.fieldsOf k)) ∧ keyStr P k = true)
theorem mapTy_is {t k e : TypeId} {kd : Nat} (h : mapTy P t = (kd, k, e)) (h0 : kd ≠ 0) : P.underlying t = some (.map k e) ∧ KTys P kd k := by
  unfold mapTy at h
  split at h
  · rename_i k' e' hu
    split at h
    · rename_i hk; cases h; exact ⟨hu, .inl ⟨_, hk, .inl ⟨rfl, rfl⟩⟩⟩
    · rename_i kk hk; cases h; exact ⟨hu, .inl ⟨_, hk, .inr ⟨rfl, _, rfl⟩⟩⟩
    · rename_i fs hk
      cases hs : keyStr P k' with
      | false => rw [hs, cond_false] at h; cases h; exact absurd rfl h0
      | true =>
        rw [hs, cond_true] at h; cases h
        exact ⟨hu, .inr ⟨rfl, by unfold Program.fieldsOf; simp [hk], hs⟩⟩
    · cases h; exact absurd rfl h0
  · cases h; exact absurd rfl h0
theorem bytes_beq (s u : ByteArray) : (s == u) = decide (s = u) := by
  cases s with
  | mk s => cases u with
    | mk u =>
      show (s == u) = _
      by_cases h : s = u
      · subst h; simp
      · simp [h]
/-- Is it the same key? -/
noncomputable def sameK (kd : Nat) (x y : AV) : Option Bool :=
  match x, y with
  | .s n d, .s m e => bif Nat.beq kd 1 then some (Nat.beq n m && Nat.beq d e) else none
  | .i j a, .i k b => bif Nat.beq kd 2 && eqK j k then some (eqI a b) else none
  | _, _ => none
theorem sameK_is {kd : Nat} {d : TypeDesc} (hd : KTy kd d) {x y : AV} {x' y' : Value} (hx : VRel ρ x x') (hy : VRel ρ y y') {b : Bool} (h : sameK kd x y = some b) : Instr.sameNow d x' y' = some b ∧ (b = true → y' = x' ∧ Instr.sameBits 10000 y' x' = true) := by
  unfold sameK at h
  split at h
  · rename_i n dd m e
    obtain ⟨s, rfl, hs⟩ := hx
    obtain ⟨u, rfl, hu⟩ := hy
    cases hb : Nat.beq kd 1 with
    | false => rw [hb, cond_false] at h; cases h
    | true =>
      rw [hb, cond_true] at h; cases h
      rw [Nat.beq_eq] at hb
      rcases hd with ⟨_, rfl⟩ | ⟨h2, _⟩
      · have hq := hs.eq_iff hu
        have e1 : (Nat.beq n m && Nat.beq dd e) = decide (s = u) := by
          rw [Bool.eq_iff_iff, Bool.and_eq_true, Nat.beq_eq, Nat.beq_eq, decide_eq_true_iff, hq]
        refine ⟨?_, fun hh => ?_⟩
        · simp only [Instr.sameNow, e1]
          congr 1
          exact bytes_beq s u
        · rw [e1, decide_eq_true_iff] at hh
          subst hh
          exact ⟨rfl, by
            show (s == s) = true
            rw [bytes_beq]; simp⟩
      · omega
  · rename_i j a k c
    cases hx; cases hy
    cases hb : (Nat.beq kd 2 && eqK j k) with
    | false => rw [hb, cond_false] at h; cases h
    | true =>
      rw [hb, cond_true] at h; cases h
      rw [Bool.and_eq_true, Nat.beq_eq] at hb
      obtain ⟨h2, h3⟩ := hb
      have := eqK_eq h3; subst this
      rcases hd with ⟨h1, _⟩ | ⟨_, kk, rfl⟩
      · omega
      · rw [eqI_eq]
        refine ⟨?_, fun hh => ?_⟩
        · simp only [Instr.sameNow, if_true]
          congr 1
        · rw [decide_eq_true_iff] at hh
          subst hh
          exact ⟨rfl, by simp [Instr.sameBits]⟩
  · cases h
noncomputable def fndK (kd : Nat) (k : AV) : List (AV × AV) → Nat → Option (Option (Nat × AV))
  | [], _ => some none
  | x :: l, i => match sameK kd k x.1 with
    | some true => some (some (i, x.2))
    | some false => fndK kd k l (Nat.succ i)
    | none => none
theorem fndK_is {kd : Nat} {d : TypeDesc} (hd : KTy kd d) {k : AV} {k' : Value} (hk : VRel ρ k k') : ∀ {l : List (AV × AV)} {m : List MapEntry} {i : Nat} {r : Option (Nat × AV)}, MRel ρ l m → fndK kd k l i = some r →
    match r with
    | none => Instr.findNow d k' m i = some none
    | some (j, v) => ∃ u e, Instr.findNow d k' m i = some (some (j, u)) ∧ VRel ρ v u ∧ i ≤ j ∧ m[j - i]? = some e ∧ e.key = k' ∧ Instr.sameBits 10000 e.key k' = true
  | [], m, i, r, hm, h => by
    simp only [MRel] at hm; subst hm
    simp only [fndK] at h; cases h; rfl
  | x :: l, m, i, r, hm, h => by
    obtain ⟨e, m', rfl, h1, h2, h3⟩ := hm
    simp only [fndK] at h
    split at h
    · rename_i hs
      cases h
      obtain ⟨q1, q2⟩ := sameK_is hd hk h1 hs
      exact ⟨e.val, e, by simp only [Instr.findNow, q1], h2, Nat.le_refl _, by simp, (q2 rfl).1, (q2 rfl).2⟩
    · rename_i hs
      obtain ⟨q1, _⟩ := sameK_is hd hk h1 hs
      have ih := fndK_is hd hk (i := Nat.succ i) h3 h
      cases r with
      | none => simp only at ih ⊢; simp only [Instr.findNow, q1]; exact ih
      | some jv =>
        obtain ⟨j, v⟩ := jv
        obtain ⟨u, e2, g1, g2, g3, g4, g5⟩ := ih
        have g3' : i + 1 ≤ j := g3
        refine ⟨u, e2, by simp only [Instr.findNow, q1]; exact g1, g2, by omega, ?_, g5⟩
        have : j - i = (j - (i + 1)) + 1 := by omega
        rw [this]; simpa using g4
    · cases h
theorem findKey_run {kd : Nat} {d : TypeDesc} (hd : KTy kd d) {kt : TypeId} (hu : P.underlying kt = some d) {k' : Value} {m : List MapEntry} {r : Option (Nat × Value)} (h : Instr.findNow d k' m 0 = some r) (w : World) : (Instr.findKey kt k' m).run P w = .ok r w := by
  simp [Instr.findKey, run_underlying hu, h]
theorem checkKey_run {kd : Nat} {d : TypeDesc} (hd : KTy kd d) {kt : TypeId} (hu : P.underlying kt = some d) (b : Bool) (k' : Value) (w : World) : (Instr.checkKey b 10000 kt k').run P w = .ok () w := by
  have he : Instr.checkKey b 10000 kt k' = Instr.checkKey b (9999 + 1) kt k' := rfl
  rw [he]; clear he
  generalize 9999 = dp
  rcases hd with ⟨_, rfl⟩ | ⟨_, kk, rfl⟩ <;> simp [Instr.checkKey, run_underlying hu]
/-- A block whose cells are no text's. -/
def plainB : Option AO → Bool
  | some (.cells _ _ _) => true
  | some (.grow _ _ _ _) => true
  | _ => false
theorem plainB_is (hR : Rel ρ h.get w) {id b C : Nat} (hb : ρ id = some (b, C)) (hp : plainB (h.get id) = true) : ∃ o, h.get id = some o ∧ ∃ c e, w.heap[b]? = some (.cells c e (0, 0)) := by
  cases e : h.get id with
  | none => rw [e] at hp; cases hp
  | some o =>
    rw [e] at hp
    obtain ⟨b', C', ob, k1, k2, k3⟩ := hR.has id o e
    rw [hb] at k1; cases k1
    cases o with
    | cells t n e => obtain ⟨c, rfl, _⟩ := k3; exact ⟨_, rfl, _, _, k2⟩
    | grow t n z e => obtain ⟨c, rfl, _⟩ := k3; exact ⟨_, rfl, _, _, k2⟩
    | _ => cases hp
/-- Two parts of keys. -/
noncomputable def sameF (P : Program) (h : T AO) (t : TypeId) (x y : AV) : Option Bool :=
  match P.underlying t with
  | some (.int _) => (match x, y with | .i j a, .i k b => bif eqK j k then some (eqI a b) else none | _, _ => none)
  | some .string => (match x, y with | .s n d, .s m e => some (Nat.beq n m && Nat.beq d e) | _, _ => none)
  | some (.pointer e) => (match x, y with
    | .np, .np => some true
    | .np, .p _ _ => some false
    | .p _ _, .np => some false
    | .p i o, .p j q => match sizeTy P e with
      | some n => bif Nat.beq n 0 then none else bif Nat.beq i j then some (Nat.beq o q) else bif plainB (h.get i) && plainB (h.get j) then some false else none
      | none => none
    | _, _ => none)
  | _ => none
theorem sameF_is (hR : Rel ρ h.get w) {t : TypeId} {x y : AV} {x' y' : Value} (hx : VRel ρ x x') (hy : VRel ρ y y') {r : Bool} (e : sameF P h t x y = some r) :
    (∀ d, (Op.equalIn (d + 1) t x' y').run P w = .ok r w) ∧ (r = true → y' = x' ∧ ∀ d, Instr.sameBits d y' x' = true) := by
  unfold sameF at e
  split at e
  · rename_i kk hu
    split at e
    · obtain ⟨h1, h2⟩ := bif_some e
      have := eqK_eq h1; subst this
      cases hx; cases hy; subst h2
      rw [eqI_eq]
      refine ⟨fun d => by rw [run_equalIn_int w d t _ kk _ _ hu]; congr 1, fun hh => ?_⟩
      rw [decide_eq_true_iff] at hh; subst hh
      exact ⟨rfl, fun d => by simp [Instr.sameBits]⟩
    · cases e
  · rename_i hu
    split at e
    · rename_i n1 d1 m1 e1
      cases e
      obtain ⟨s1, rfl, h1⟩ := hx
      obtain ⟨s2, rfl, h2⟩ := hy
      refine ⟨fun d => by rw [run_equalIn_string w d t s1 s2 hu, h1.beq h2], fun hh => ?_⟩
      have hq := h1.eq_iff h2
      rw [Bool.and_eq_true, Nat.beq_eq, Nat.beq_eq, ← hq] at hh
      subst hh
      refine ⟨rfl, fun d => ?_⟩
      cases d <;> (show (s1 == s1) = true; rw [bytes_beq]; simp)
    · cases e
  · rename_i el hu
    split at e
    · cases e; cases hx; cases hy
      exact ⟨fun d => by simp [Op.equalIn, run_underlying hu], fun _ => ⟨rfl, fun d => by cases d <;> simp [Instr.sameBits]⟩⟩
    · cases e; cases hx; obtain ⟨b, C, _, rfl⟩ := hy
      exact ⟨fun d => by simp [Op.equalIn, run_underlying hu], fun hh => by cases hh⟩
    · cases e; cases hy; obtain ⟨b, C, _, rfl⟩ := hx
      exact ⟨fun d => by simp [Op.equalIn, run_underlying hu], fun hh => by cases hh⟩
    · rename_i i o j q
      obtain ⟨b, C, hb, rfl⟩ := hx
      obtain ⟨b2, C2, hb2, rfl⟩ := hy
      split at e
      · rename_i n hn
        cases h0 : Nat.beq n 0 with
        | true => rw [h0, cond_true] at e; cases e
        | false =>
          rw [h0, cond_false] at e
          have hn0 : n ≠ 0 := fun hh => by subst hh; cases h0
          cases hij : Nat.beq i j with
          | true =>
            rw [hij, cond_true] at e; cases e
            rw [Nat.beq_eq] at hij; subst hij
            rw [hb] at hb2; cases hb2
            refine ⟨fun d => ?_, fun hh => ?_⟩
            · simp [Op.equalIn, run_underlying hu, sizeOf_run hn, hn0, sameAddr]
              rw [Bool.eq_iff_iff, beq_iff_eq, Nat.beq_eq]; simp
            · rw [Nat.beq_eq] at hh; subst hh
              exact ⟨rfl, fun d => by cases d <;> simp [Instr.sameBits]⟩
          | false =>
            rw [hij, cond_false] at e
            obtain ⟨h1, h2⟩ := bif_some e
            subst h2
            rw [Bool.and_eq_true] at h1
            obtain ⟨o1, q1, c1, e1, w1⟩ := plainB_is hR hb h1.1
            obtain ⟨o2, q2, c2, e2, w2⟩ := plainB_is hR hb2 h1.2
            have hne : b ≠ b2 := fun hh => by
              subst hh
              have := hR.inj i j o1 o2 b C C2 q1 q2 hb hb2
              subst this
              rw [Nat.beq_refl] at hij; cases hij
            have hs := run_sameAddr_other (P := P) w (a := ⟨b, o, none⟩) (b := ⟨b2, q, none⟩) (by simp [hne]) w1 w2
            exact ⟨fun d => by simp [Op.equalIn, run_underlying hu, sizeOf_run hn, hn0, hs], fun hh => by cases hh⟩
      · cases e
    · cases e
  · cases e
noncomputable def cmpK (P : Program) (h : T AO) (l m : AVs) : List Field → Nat → Option Bool
  | [], i => bif Nat.beq l.len i && Nat.beq m.len i then some true else none
  | f :: fs, i => match l.get i, m.get i with
    | some a, some b => match sameF P h f.type a b with
      | some true => cmpK P h l m fs (Nat.succ i)
      | some false => some false
      | none => none
    | _, _ => none
theorem part_one {t : TypeId} {c : Array Value} {i : Nat} {u : Value} (ha : aggTy P t = 2) (hu : c[i]? = some u) (w : World) : (part t c i).run P w = .ok u w := by
  simp [part, (isAgg_run w).2 ha, hu]
theorem cmpK_is (hR : Rel ρ h.get w) {l m : AVs} {c d : Array Value} (hc : VsRel ρ l c.toList) (hd : VsRel ρ m d.toList) : ∀ {fs : List Field} {i : Nat} {r : Bool}, keyFlds P fs i = true → cmpK P h l m fs i = some r →
    (∀ k, (Op.eqFields (k + 1) c d fs).run P w = .ok r w) ∧ (r = true → c.size = d.size ∧ (∀ j, i ≤ j → d[j]? = c[j]?) ∧ ∀ j x, i ≤ j → c[j]? = some x → ∀ n, Instr.sameBits n x x = true)
  | [], i, r, _, e => by
    simp only [cmpK] at e
    obtain ⟨h1, rfl⟩ := bif_some e
    rw [Bool.and_eq_true, Nat.beq_eq, Nat.beq_eq] at h1
    have l1 : c.size = i := by have := hc.len; rw [Array.length_toList] at this; omega
    have l2 : d.size = i := by have := hd.len; rw [Array.length_toList] at this; omega
    refine ⟨fun k => rfl, fun _ => ⟨by omega, fun j hj => ?_, fun j x hj hx => ?_⟩⟩
    · rw [Array.getElem?_eq_none (by omega), Array.getElem?_eq_none (by omega)]
    · rw [Array.getElem?_eq_none (by omega)] at hx; cases hx
  | f :: fs, i, r, hk, e => by
    simp only [keyFlds, Bool.and_eq_true, Bool.not_eq_true', Nat.beq_eq] at hk
    obtain ⟨⟨hn, ho, ha, _⟩, hks⟩ := hk
    have hne : f.name ≠ "_" := by simpa using hn
    simp only [cmpK] at e
    split at e
    · rename_i a b hx hy
      obtain ⟨u, hu1, hu2⟩ := hc.at hx
      obtain ⟨v, hv1, hv2⟩ := hd.at hy
      have hu3 : c[i]? = some u := by simpa using hu1
      have hv3 : d[i]? = some v := by simpa using hv1
      have p1 := part_one (P := P) ha hu3 w
      have p2 := part_one (P := P) ha hv3 w
      split at e
      · rename_i hs
        obtain ⟨g1, g2⟩ := sameF_is hR hu2 hv2 hs
        obtain ⟨i1, i2⟩ := cmpK_is hR hc hd hks e
        obtain ⟨rfl, g3⟩ := g2 rfl
        refine ⟨fun k => ?_, fun hr => ?_⟩
        · simp only [Op.eqFields, if_pos hne, Sem.run_bind, ho, p1, Result.andThen_ok, p2, g1 k]
          simpa using i1 k
        · obtain ⟨j1, j2, j3⟩ := i2 hr
          refine ⟨j1, fun j hj => ?_, fun j x hj hxx => ?_⟩
          · by_cases hij : j = i
            · subst hij; rw [hu3, hv3]
            · exact j2 j (by show i + 1 ≤ j; omega)
          · by_cases hij : j = i
            · subst hij; rw [hu3] at hxx; cases hxx; exact g3
            · exact j3 j x (by show i + 1 ≤ j; omega) hxx
      · rename_i hs
        cases e
        obtain ⟨g1, _⟩ := sameF_is hR hu2 hv2 hs
        refine ⟨fun k => ?_, fun hr => by cases hr⟩
        simp only [Op.eqFields, if_pos hne, Sem.run_bind, ho, p1, Result.andThen_ok, p2, g1 k]
        simp
      · cases e
    · cases e
/-- A key that is a struct stands among those that a map has. -/
noncomputable def fndS (P : Program) (h : T AO) (fs : List Field) (k : AVs) : List (AV × AV) → Nat → Option (Option (Nat × AV))
  | [], _ => some none
  | x :: l, i => match x.1 with
    | .agg m => match cmpK P h k m fs 0 with
      | some true => some (some (i, x.2))
      | some false => fndS P h fs k l (Nat.succ i)
      | none => none
    | _ => none
theorem fndS_is (hR : Rel ρ h.get w) {kt : TypeId} (hu : P.underlying kt = some (.struct (P.fieldsOf kt))) (hk : keyStr P kt = true) {k : AVs} {c : Array Value} (hc : VsRel ρ k c.toList) : ∀ {l : List (AV × AV)} {m : List MapEntry} {i : Nat} {r : Option (Nat × AV)}, MRel ρ l m → fndS P h (P.fieldsOf kt).toList k l i = some r →
    match r with
    | none => (Instr.findAsking kt (.agg c) m i).run P w = .ok none w
    | some (j, v) => ∃ u e, (Instr.findAsking kt (.agg c) m i).run P w = .ok (some (j, u)) w ∧ VRel ρ v u ∧ i ≤ j ∧ m[j - i]? = some e ∧ e.key = .agg c ∧ Instr.sameBits 10000 e.key (.agg c) = true
  | [], m, i, r, hm, e => by
    simp only [MRel] at hm; subst hm
    simp only [fndS] at e; cases e
    simp [Instr.findAsking]
  | x :: l, m, i, r, hm, e => by
    obtain ⟨en, m', rfl, h1, h2, h3⟩ := hm
    unfold keyStr at hk
    rw [Bool.and_eq_true, Bool.not_eq_true'] at hk
    simp only [fndS] at e
    split at e
    · rename_i mm hx
      rw [hx] at h1
      obtain ⟨d, hd0, hd⟩ := h1
      have eqr : ∀ {b : Bool}, (Op.eqFields 9999 c d (P.fieldsOf kt).toList).run P w = .ok b w → (Op.equal kt (.agg c) en.key).run P w = .ok b w := fun {b} hb => by
        have he : Op.equal kt (.agg c) en.key = Op.equalIn (9999 + 1) kt (.agg c) en.key := rfl
        rw [he, hd0, run_equalIn_struct w 9999 kt c d hu hk.1]; exact hb
      split at e
      · rename_i hs
        cases e
        obtain ⟨g1, g2⟩ := cmpK_is hR hc hd hk.2 hs
        obtain ⟨j1, j2, j3⟩ := g2 rfl
        have hcd : d = c := Array.ext_getElem? fun j => j2 j (Nat.zero_le _)
        subst hcd
        refine ⟨en.val, en, by simp [Instr.findAsking, eqr (g1 9998)], h2, Nat.le_refl _, by simp, hd0, ?_⟩
        rw [hd0]
        show Instr.sameBits (9999 + 1) (.agg d) (.agg d) = true
        simp only [Instr.sameBits, beq_self_eq_true, Bool.true_and, List.all_eq_true]
        intro p hp
        obtain ⟨q, hq, ep⟩ := List.getElem_of_mem hp
        rw [List.getElem_zip] at ep
        rw [← ep]
        have hq' : q < d.size := by simp at hq; exact hq
        exact j3 q _ (Nat.zero_le _) (by simp [hq']) 9999
      · rename_i hs
        obtain ⟨g1, _⟩ := cmpK_is hR hc hd hk.2 hs
        have ih := fndS_is hR hu (by unfold keyStr; rw [hk.1, hk.2]; rfl) hc (i := Nat.succ i) h3 e
        have st : (Instr.findAsking kt (.agg c) (en :: m') i).run P w = (Instr.findAsking kt (.agg c) m' (i + 1)).run P w := by
          simp [Instr.findAsking, eqr (g1 9998)]
        cases r with
        | none => simp only at ih ⊢; rw [st]; exact ih
        | some jv =>
          obtain ⟨j, v⟩ := jv
          obtain ⟨u, e2, q1, q2, q3, q4, q5⟩ := ih
          have q3' : i + 1 ≤ j := q3
          refine ⟨u, e2, by rw [st]; exact q1, q2, by omega, ?_, q5⟩
          have : j - i = (j - (i + 1)) + 1 := by omega
          rw [this]; simpa using q4
      · cases e
    · cases e
/-- The key's own parts. -/
noncomputable def hasPs (l : AVs) : List Field → Nat → Bool
  | [], _ => true
  | _ :: fs, i => (match l.get i with | some _ => true | none => false) && hasPs l fs (Nat.succ i)
theorem checkS {kt : TypeId} (hu : P.underlying kt = some (.struct (P.fieldsOf kt))) (hk : keyStr P kt = true) {k : AVs} {c : Array Value} (hc : VsRel ρ k c.toList) (hp : hasPs k (P.fieldsOf kt).toList 0 = true) (b : Bool) (w : World) : (Instr.checkKey b 10000 kt (.agg c)).run P w = .ok () w := by
  unfold keyStr at hk
  rw [Bool.and_eq_true, Bool.not_eq_true'] at hk
  have he : Instr.checkKey b 10000 kt (.agg c) = Instr.checkKey b (9998 + 1 + 1) kt (.agg c) := rfl
  rw [he]; clear he
  generalize 9998 = dp
  rw [Instr.checkKey]
  simp only [Sem.run_bind, run_underlying hu, Result.andThen_ok]
  rw [← Array.forIn_toList]
  have hk2 := hk.2
  clear hu hk
  revert hk2 hp
  generalize (P.fieldsOf kt).toList = fs
  generalize 0 = i
  intro hp hk2
  induction fs generalizing i with
  | nil => simp
  | cons f fs ih =>
    simp only [keyFlds, Bool.and_eq_true, Bool.not_eq_true', Nat.beq_eq] at hk2
    obtain ⟨⟨hn, ho, ha, hf⟩, hks⟩ := hk2
    have hne : f.name ≠ "_" := by simpa using hn
    simp only [hasPs, Bool.and_eq_true] at hp
    obtain ⟨hp1, hp2⟩ := hp
    split at hp1
    · rename_i a hx
      obtain ⟨u, hu1, hu2⟩ := hc.at hx
      have hu3 : c[i]? = some u := by simpa using hu1
      have p1 := part_one (P := P) ha hu3 w
      have ck : (Instr.checkKey b (dp + 1) f.type u).run P w = .ok () w := by
        unfold keyFld at hf
        split at hf
        · rename_i hh; simp [Instr.checkKey, run_underlying hh]
        · rename_i hh; simp [Instr.checkKey, run_underlying hh]
        · rename_i hh; simp [Instr.checkKey, run_underlying hh]
        · cases hf
      simp only [List.forIn_cons, Sem.run_bind, if_pos hne, ho, p1, Result.andThen_ok, ck, Sem.run_pure]
      exact ih _ hp2 hks
    · cases hp1
/-- A key among those that a map has. -/
noncomputable def fndA (P : Program) (h : T AO) (kd : Nat) (kt : TypeId) (k : AV) (l : List (AV × AV)) : Option (Option (Nat × AV)) :=
  bif Nat.beq kd 3 then match k with
    | .agg c => bif hasPs c (P.fieldsOf kt).toList 0 then fndS P h (P.fieldsOf kt).toList c l 0 else none
    | _ => none
  else fndK kd k l 0
theorem fndA_is (hR : Rel ρ h.get w) {kd : Nat} {kt : TypeId} (hK : KTys P kd kt) {k : AV} {k' : Value} (hk : VRel ρ k k') {l : List (AV × AV)} {m : List MapEntry} {r : Option (Nat × AV)} (hm : MRel ρ l m) (e : fndA P h kd kt k l = some r) :
    (∀ b, (Instr.checkKey b 10000 kt k').run P w = .ok () w) ∧ match r with
    | none => (Instr.findKey kt k' m).run P w = .ok none w
    | some (j, v) => ∃ u e, (Instr.findKey kt k' m).run P w = .ok (some (j, u)) w ∧ VRel ρ v u ∧ m[j]? = some e ∧ e.key = k' ∧ Instr.sameBits 10000 e.key k' = true := by
  unfold fndA at e
  rcases hK with ⟨d, hu, hd⟩ | ⟨rfl, hu, hs⟩
  · have h3 : Nat.beq kd 3 = false := beq_f (by rcases hd with ⟨h1, _⟩ | ⟨h1, _⟩ <;> omega)
    rw [h3, cond_false] at e
    refine ⟨fun b => checkKey_run hd hu b k' w, ?_⟩
    have g := fndK_is hd hk hm e
    cases r with
    | none => exact findKey_run hd hu g w
    | some jv =>
      obtain ⟨j, v⟩ := jv
      obtain ⟨u, en, g1, g2, g3, g4, g5⟩ := g
      exact ⟨u, en, findKey_run hd hu g1 w, g2, by simpa using g4, g5⟩
  · rw [Nat.beq_refl, cond_true] at e
    split at e
    · rename_i c
      obtain ⟨c', rfl, hc⟩ := hk
      obtain ⟨hp, e⟩ := bif_some' e
      refine ⟨fun b => checkS hu hs hc hp b w, ?_⟩
      have g := fndS_is hR hu hs hc hm e
      have hf := run_findKey_eq (P := P) w (k := kt) (by rw [hu]) (.agg c') m
      cases r with
      | none => simp only at g ⊢; rw [hf]; exact g
      | some jv =>
        obtain ⟨j, v⟩ := jv
        obtain ⟨u, en, g1, g2, g3, g4, g5⟩ := g
        exact ⟨u, en, by rw [hf]; exact g1, g2, by simpa using g4, g5⟩
    · cases e
theorem lookup_run {t kt el : TypeId} (hu : P.underlying t = some (.map kt el)) {x' k' : Value} {es : Array MapEntry} {w : World}
    (hx : (x' = .map none ∧ es = #[]) ∨ ∃ b clock, x' = .map (some b) ∧ w.heap[b]? = some (.map es clock)) {ok : Bool} {r : Option (Nat × Value)} (hc : ∀ b, (Instr.checkKey b 10000 kt k').run P w = .ok () w) (hf : (Instr.findKey kt k' es.toList).run P w = .ok r w) :
    (r = none → ∀ z, (zeroValue el).run P w = .ok z w → (Instr.lookup t x' k' ok).run P w = .ok (if ok then .tuple #[z, .bool false] else z) w) ∧ (∀ j u, r = some (j, u) → (Instr.lookup t x' k' ok).run P w = .ok (if ok then .tuple #[u, .bool true] else u) w) := by
  constructor
  · rintro rfl z hz
    rcases hx with ⟨rfl, rfl⟩ | ⟨b, clock, rfl, hb⟩
    · simp [Instr.lookup, run_underlying hu, hc, hf, hz] at hf ⊢
    · simp [Instr.lookup, run_underlying hu, getObj, Sem.run, hb, hc, hf, hz]
  · rintro j u rfl
    rcases hx with ⟨rfl, rfl⟩ | ⟨b, clock, rfl, hb⟩
    · simp [Instr.lookup, run_underlying hu, hc, hf] at hf ⊢
    · simp [Instr.lookup, run_underlying hu, getObj, Sem.run, hb, hc, hf]
/-- A new map. -/
noncomputable def evMkMap (P : Program) (h : T AO) (nx : Nat) (t : TypeId) (x : Option (Option AV)) : R :=
  match mapTy P t with
  | (0, _, _) => .bad
  | _ => match x with
    | none => (h.put nx (.mps [])).seq fun h => .ok (.mp nx) h (Nat.succ nx)
    | some (some (.i _ _)) => (h.put nx (.mps [])).seq fun h => .ok (.mp nx) h (Nat.succ nx)
    | _ => .bad
theorem evMkMap_run (hR : Rel ρ h.get w) {t : TypeId} {x : Option (Option AV)} {y : Option Value} (hx : match x with | none => y = none | some (some a) => ∃ v, y = some v ∧ VRel ρ a v | _ => True) {r : AV} {h' : T AO} {nx' : Nat} (e : evMkMap P h nx t x = .ok r h' nx') (hf : Fr ρ nx nx') :
    ∃ ρ' u w', (Instr.makeMap t y).run P w = .ok u w' ∧ VRel ρ' r u ∧ Stp ρ ρ' h.get h'.get w w' nx nx' := by
  unfold evMkMap at e
  split at e
  · cases e
  · rename_i p hne
    obtain ⟨hu, _⟩ := mapTy_is (P := P) (t := t) (kd := (mapTy P t).1) (k := (mapTy P t).2.1) (e := (mapTy P t).2.2) rfl (fun h0 => by
      apply hne (mapTy P t).2.1 (mapTy P t).2.2
      rw [← h0])
    have fin : ∀ (y : Option Value), (y = none ∨ ∃ k n, y = some (.int k n)) → (h.put nx (.mps [])).seq (fun h => R.ok (.mp nx) h (Nat.succ nx)) = .ok r h' nx' → ∃ ρ' u w', (Instr.makeMap t y).run P w = .ok u w' ∧ VRel ρ' r u ∧ Stp ρ ρ' h.get h'.get w w' nx nx' := by
      intro y hy e
      rw [T.seq_eq] at e; cases e
      have hf' : ρ nx = none := hf nx (Nat.le_refl _) (Nat.lt_succ_self _)
      refine ⟨ρ.set nx (w.heap.size, 0), .map (some w.heap.size), w.alloc (.map #[] 0), ?_, ⟨_, _, set_self _ _ _, rfl⟩, Stp.new_ hR hf' (.map #[] 0) (.mps []) 0 ⟨#[], 0, rfl, rfl⟩ _ rfl rfl rfl rfl⟩
      rcases hy with rfl | ⟨k, n, rfl⟩
      · simp [Instr.makeMap, World.alloc_eq]
      · simp [Instr.makeMap, run_underlying hu, World.alloc_eq, asInt, asIntOf]
    split at e
    · simp only at hx; subst hx; exact fin none (.inl rfl) e
    · obtain ⟨v, rfl, hv⟩ := hx
      cases hv
      exact fin _ (.inr ⟨_, _, rfl⟩) e
    · cases e
noncomputable def mapOf (h : T AO) (x : AV) : Option (List (AV × AV)) :=
  match x with
  | .nm => some []
  | .mp id => match h.get id with | some (.mps l) => some l | _ => none
  | _ => none
noncomputable def evLookup (P : Program) (h : T AO) (t : TypeId) (x k : AV) (ok : Bool) : Option AV :=
  match mapTy P t with
  | (0, _, _) => none
  | (kd, kt, e) => match mapOf h x with
    | some l => match fndA P h kd kt k l with
      | some (some (_, v)) => some (bif ok then .tup (.cons v (.cons (.b true) .nil)) else v)
      | some none => match zeroTy P e with
        | some z => some (bif ok then .tup (.cons z (.cons (.b false) .nil)) else z)
        | none => none
      | none => none
    | none => none
theorem mapOf_is (hR : Rel ρ h.get w) {x : AV} {x' : Value} (hx : VRel ρ x x') {l : List (AV × AV)} (e : mapOf h x = some l) :
    (x' = .map none ∧ l = []) ∨ ∃ id b C es clock, x = .mp id ∧ h.get id = some (.mps l) ∧ ρ id = some (b, C) ∧ x' = .map (some b) ∧ w.heap[b]? = some (.map es clock) ∧ MRel ρ l es.toList := by
  unfold mapOf at e
  split at e
  · cases hx; cases e; exact .inl ⟨rfl, rfl⟩
  · rename_i id
    split at e
    · rename_i l' hid
      cases e
      obtain ⟨b, C, hb, rfl⟩ := hx
      obtain ⟨b', C', ob, k1, k2, k3⟩ := hR.has id _ hid
      rw [hb] at k1; cases k1
      obtain ⟨es, clock, rfl, hm⟩ := k3
      exact .inr ⟨id, b, C, es, clock, rfl, hid, hb, rfl, k2, hm⟩
    · cases e
  · cases e
theorem evLookup_run (hR : Rel ρ h.get w) {t : TypeId} {x k : AV} {x' k' : Value} (hx : VRel ρ x x') (hk : VRel ρ k k') {ok : Bool} {v : AV} (e : evLookup P h t x k ok = some v) : ∃ u, (Instr.lookup t x' k' ok).run P w = .ok u w ∧ VRel ρ v u := by
  unfold evLookup at e
  split at e
  · cases e
  · rename_i kd kt el hne hmt
    obtain ⟨hu, hK⟩ := mapTy_is (P := P) hmt hne
    split at e
    · rename_i l hl
      have hm : ∃ es : Array MapEntry, MRel ρ l es.toList ∧ ((x' = .map none ∧ es = #[]) ∨ ∃ b clock, x' = .map (some b) ∧ w.heap[b]? = some (.map es clock)) := by
        rcases mapOf_is hR hx hl with ⟨rfl, rfl⟩ | ⟨id, b, C, es, clock, rfl, _, _, rfl, hb, hm⟩
        · exact ⟨#[], rfl, .inl ⟨rfl, rfl⟩⟩
        · exact ⟨es, hm, .inr ⟨b, clock, rfl, hb⟩⟩
      obtain ⟨es, hm, hxx⟩ := hm
      split at e
      · rename_i j v' hf
        cases e
        obtain ⟨hc, u, en, g1, g2, _⟩ := fndA_is hR hK hk hm hf
        have g := (lookup_run (ok := ok) hu hxx hc g1).2 j u rfl
        cases ok with
        | true => exact ⟨_, g, _, rfl, u, _, rfl, g2, _, _, rfl, rfl, rfl⟩
        | false => exact ⟨_, g, g2⟩
      · rename_i hf
        split at e
        · rename_i z hz
          cases e
          obtain ⟨z', h1, h2⟩ := zero_run (ρ := ρ) hz
          obtain ⟨hc, g1⟩ := fndA_is hR hK hk hm hf
          have g := (lookup_run (ok := ok) hu hxx hc g1).1 rfl z' (h1 w)
          cases ok with
          | true => exact ⟨_, g, _, rfl, z', _, rfl, h2, _, _, rfl, rfl, rfl⟩
          | false => exact ⟨_, g, h2⟩
        · cases e
      · cases e
    · cases e
noncomputable def setL (x : AV × AV) : List (AV × AV) → Nat → List (AV × AV)
  | [], _ => []
  | _ :: l, 0 => x :: l
  | y :: l, i + 1 => y :: setL x l i
theorem setL_rel {x : AV × AV} {k' v' : Value} (hk : VRel ρ x.1 k') (hv : VRel ρ x.2 v') : ∀ {l : List (AV × AV)} {m : List MapEntry} {i : Nat}, MRel ρ l m → MRel ρ (setL x l i) (m.modify i fun e => { e with key := k', val := v' })
  | [], m, i, h => by simp only [MRel] at h; subst h; simp [setL, MRel]
  | y :: l, m, 0, ⟨e, r, e1, h1, h2, h3⟩ => by subst e1; exact ⟨{ e with key := k', val := v' }, r, by simp, hk, hv, h3⟩
  | y :: l, m, i + 1, ⟨e, r, e1, h1, h2, h3⟩ => by subst e1; exact ⟨e, _, by simp, h1, h2, setL_rel hk hv h3⟩
theorem MRel.push {x : AV × AV} {e : MapEntry} (hk : VRel ρ x.1 e.key) (hv : VRel ρ x.2 e.val) : ∀ {l : List (AV × AV)} {m : List MapEntry}, MRel ρ l m → MRel ρ (l ++ [x]) (m ++ [e])
  | [], m, h => by simp only [MRel] at h; subst h; exact ⟨e, [], rfl, hk, hv, rfl⟩
  | y :: l, m, ⟨e', r, e1, h1, h2, h3⟩ => by subst e1; exact ⟨e', _, rfl, h1, h2, MRel.push hk hv h3⟩
/-- A value laid into a map. -/
noncomputable def evMapPut (P : Program) (h : T AO) (nx : Nat) (t : TypeId) (x k v : AV) : R :=
  match mapTy P t with
  | (0, _, _) => .bad
  | (kd, kt, _) => match x with
    | .mp id => match h.get id with
      | some (.mps l) => match fndA P h kd kt k l with
        | some (some (i, _)) => (h.put id (.mps (setL (k, v) l i))).seq fun h => .ok (.tup .nil) h nx
        | some none => (h.put id (.mps (l ++ [(k, v)]))).seq fun h => .ok (.tup .nil) h nx
        | none => .bad
      | _ => .bad
    | _ => .bad
theorem evMapPut_run (hR : Rel ρ h.get w) {t : TypeId} {x k v : AV} {x' k' v' : Value} (hx : VRel ρ x x') (hk : VRel ρ k k') (hv : VRel ρ v v') {r : AV} {h' : T AO} {nx' : Nat} (e : evMapPut P h nx t x k v = .ok r h' nx') :
    ∃ w', (Instr.mapUpdate t x' k' v').run P w = .ok () w' ∧ r = .tup .nil ∧ Stp ρ ρ h.get h'.get w w' nx nx' := by
  unfold evMapPut at e
  split at e
  · cases e
  · rename_i kd kt el hne hmt
    obtain ⟨hu, hK⟩ := mapTy_is (P := P) hmt hne
    split at e
    · rename_i id
      split at e
      · rename_i l hid
        obtain ⟨b, C, hb, rfl⟩ := hx
        obtain ⟨b', C', ob, k1, k2, k3⟩ := hR.has id _ hid
        rw [hb] at k1; cases k1
        obtain ⟨es, clock, rfl, hm⟩ := k3
        have hblt := (Array.getElem?_eq_some_iff.1 k2).1
        have upd : ∀ (o : Obj) (a1 : AO), ORel ρ C a1 o → Stp ρ ρ h.get (h.put id a1).get w { w with heap := w.heap.setIfInBounds b o } nx nx := fun o a1 ho =>
          Stp.upd hR hid hb (o := o) ho _ rfl rfl rfl (by simp) (by simp [hblt]) fun k hk => by simp only [Array.getElem?_setIfInBounds]; rw [if_neg (Ne.symm hk)]
        split at e
        · rename_i i v0 hf
          rw [T.seq_eq] at e; cases e
          obtain ⟨hc, u, en, hq, g2, g4, g5, g6⟩ := fndA_is hR hK hk hm hf
          have g4' : es[i]? = some en := by simpa using g4
          have hkey : (Instr.keyThatStays (((es[i]?).map (·.key)).getD k') k').run P w = .ok k' w := by
            rw [g4']
            show (Instr.keyThatStays en.key k').run P w = .ok k' w
            unfold Instr.keyThatStays
            rw [if_pos g6]; rfl
          refine ⟨{ w with heap := w.heap.setIfInBounds b (.map (es.modify i fun e => { e with key := k', val := v' }) clock) }, ?_, rfl, upd _ _ ⟨_, clock, rfl, by rw [Array.toList_modify]; exact setL_rel hk hv hm⟩⟩
          simp only [Instr.mapUpdate, Sem.run_bind, run_underlying hu, Result.andThen_ok, getObj, setObj, Sem.run, k2, hc, hq, hkey]
        · rename_i hf
          rw [T.seq_eq] at e; cases e
          obtain ⟨hc, hq⟩ := fndA_is hR hK hk hm hf
          refine ⟨{ w with heap := w.heap.setIfInBounds b (.map (es.push { key := k', val := v', born := clock }) (clock + 1)) }, ?_, rfl, upd _ _ ⟨_, clock + 1, rfl, by rw [Array.toList_push]; exact MRel.push (x := (k, v)) hk hv hm⟩⟩
          simp only [Instr.mapUpdate, Sem.run_bind, run_underlying hu, Result.andThen_ok, getObj, setObj, Sem.run, k2, hc, hq]
        · cases e
      · cases e
    · cases e
/-- A row of bytes as a text. -/
def bsTy (P : Program) (s d : TypeId) : Bool :=
  match P.underlying s, P.underlying d with
  | some (.slice e), some .string => match P.underlying e with | some (.int .u8) => true | _ => false
  | _, _ => false
theorem bsTy_is {s d : TypeId} (h : bsTy P s d = true) : ∃ e, P.underlying s = some (.slice e) ∧ P.underlying e = some (.int .u8) ∧ P.underlying d = some .string := by
  unfold bsTy at h
  split at h
  · rename_i e h1 h2
    split at h
    · rename_i h3; exact ⟨e, h1, h3, h2⟩
    · cases h
  · cases h
noncomputable def bStr (h : T AO) (id off len : Nat) : Option AV :=
  match h.get id with
  | some o => match o.rd with
    | some tr => match readN tr len off with
      | some l => match bytesNum l with
        | some d => some (.s len d)
        | none => none
      | none => none
    | none => none
  | none => none
noncomputable def evBStr (h : T AO) (x : AV) : Option AV :=
  match x with
  | .ns => some (.s 0 0)
  | .sl id off len _ => bStr h id off len
  | .su id off len => bif Nat.ble 1 len then bStr h id off len else none
  | .gs id len => bStr h id 0 len
  | _ => none
theorem push_bytes : ∀ (bs : List UInt8) (s : ByteArray), (bs.map fun b => (b.toNat : Int)).foldl (fun r n => r.push (UInt8.ofNat n.toNat)) s = ⟨s.data ++ bs.toArray⟩
  | [], s => by simp
  | b :: bs, s => by
    rw [List.map_cons, List.foldl_cons, push_bytes bs]
    have : UInt8.ofNat ((b.toNat : Int)).toNat = b := by simp
    rw [this]
    cases s
    simp [ByteArray.push]
theorem bStr_run (hR : Rel ρ h.get w) {id off len b C cap : Nat} (hb : ρ id = some (b, C)) {v : AV} (e : bStr h id off len = some v) : ∃ s, (Conv.bytesToString (.slice (some ⟨b, off, none⟩) len cap)).run P w = .ok (.string s) w ∧ VRel ρ v (.string s) := by
  unfold bStr at e
  split at e
  · rename_i o hid
    split at e
    · rename_i tr htr
      split at e
      · rename_i l hl
        split at e
        · rename_i d hd
          cases e
          obtain ⟨cc, et, ft, hblk, hcr⟩ := rel_read hR hid htr hb
          obtain ⟨m, hm, hmr, _, hrun⟩ := readN_run (P := P) hblk hcr hl
          obtain ⟨bs, rfl, hn⟩ := bytesNum_rel hd hmr
          have hlen : bs.length = len := by simpa using hm
          have hmm : bs.map (fun b => Value.int .u8 (b.toNat : Int)) = (bs.map fun b => (b.toNat : Int)).map (Value.int .u8) := by simp
          rw [hmm] at hrun
          refine ⟨_, run_bytesToString w _ len cap _ hrun, ⟨_, rfl, ?_⟩⟩
          rw [push_bytes]
          refine ⟨?_, ?_⟩
          · show (#[] ++ bs.toArray).toList = bytesOf len d
            rw [← hn, ← hlen, bytesOf_numOf]; simp
          · rw [← hn, ← hlen]; exact numOf_lt bs
        · cases e
      · cases e
    · cases e
  · cases e
theorem evBStr_run (hR : Rel ρ h.get w) {s d : TypeId} (hT : bsTy P s d = true) {x : AV} {x' : Value} (hx : VRel ρ x x') {v : AV} (e : evBStr h x = some v) : ∃ u, (convert s d x').run P w = .ok u w ∧ VRel ρ v u := by
  obtain ⟨el, h1, h2, h3⟩ := bsTy_is hT
  unfold evBStr at e
  split at e
  · cases hx; cases e
    exact ⟨.string .empty, by rw [run_convert_bytes_string w s d el _ _ _ h1 h2 h3]; rfl, ⟨.empty, rfl, rfl, by simp⟩⟩
  · obtain ⟨b, C, hb, rfl⟩ := hx
    obtain ⟨u, g1, g2⟩ := bStr_run (P := P) hR hb e
    exact ⟨_, by rw [run_convert_bytes_string w s d el _ _ _ h1 h2 h3]; exact g1, g2⟩
  · rename_i id off len
    obtain ⟨hl, e2⟩ := bif_some' e
    rw [Nat.ble_eq] at hl
    obtain ⟨b, C, o, c, hb, rfl, _, ho⟩ := hx
    have := ho hl
    subst this
    obtain ⟨u, g1, g2⟩ := bStr_run (P := P) hR hb e2
    exact ⟨_, by rw [run_convert_bytes_string w s d el _ _ _ h1 h2 h3]; exact g1, g2⟩
  · obtain ⟨b, C, hb, rfl, _⟩ := hx
    obtain ⟨u, g1, g2⟩ := bStr_run (P := P) hR hb e
    exact ⟨_, by rw [run_convert_bytes_string w s d el _ _ _ h1 h2 h3]; exact g1, g2⟩
  · cases e
noncomputable def evConvM (P : Program) (h : T AO) (s d : TypeId) (x : AV) : Option AV := bif bsTy P s d then evBStr h x else evUns P h s d x
theorem evConvM_run (hR : Rel ρ h.get w) {s d : TypeId} {x : AV} {x' : Value} (hx : VRel ρ x x') {v : AV} (e : evConvM P h s d x = some v) : ∃ u, (convert s d x').run P w = .ok u w ∧ VRel ρ v u := by
  unfold evConvM at e
  cases hT : bsTy P s d with
  | true => rw [hT, cond_true] at e; exact evBStr_run hR hT hx e
  | false => rw [hT, cond_false] at e; exact evUns_run hR hx e
theorem MRel.length : ∀ {l : List (AV × AV)} {m : List MapEntry}, MRel ρ l m → l.length = m.length
  | [], _, h => by simp only [MRel] at h; subst h; rfl
  | _ :: l, _, ⟨e, r, h1, _, _, h2⟩ => by subst h1; simp [MRel.length h2]
end Go.Proofs.YteogphbdpjnjoaaGreat
namespace Go.Proofs.YteogphbdpjnjoaaGreat
open Go.RowKit
variable {ρ : Map} {P : Program} {N : Nat} {sl : T AV} {a : Act} {h : T AO} {w : World} {nx : Nat}

noncomputable def evStore (P : Program) (h : T AO) (nx : Nat) (t : TypeId) (x v : AV) : R :=
  match x, sizeTy P t with
  | .p id off, some n => match h.get id with
    | some o => match o.tr with
      | some tr => match (bif Nat.beq v.cells.len n && v.cells.ones then writeN v.cells off tr else none) with
        | some t' => (h.put id (o.setTr t')).seq fun h => .ok (.tup .nil) h nx
        | none => .bad
      | none => .bad
    | none => .bad
  | _, _ => .bad
theorem evStore_run (hR : Rel ρ h.get w) {t : TypeId} {x v : AV} {x' v' : Value} (hx : VRel ρ x x') (hv : VRel ρ v v') {r : AV} {h' : T AO} {nx' : Nat} (e : evStore P h nx t x v = .ok r h' nx') :
    ∃ w', (Instr.storeAt t x' v').run P w = .ok () w' ∧ r = .tup .nil ∧ Stp ρ ρ h.get h'.get w w' nx nx' := by
  unfold evStore at e
  split at e
  · rename_i id off n hn
    obtain ⟨b, C, hb, rfl⟩ := hx
    split at e
    · rename_i o hid
      split at e
      · rename_i tr htr
        split at e
        · rename_i t' ht'
          obtain ⟨h1, h2⟩ := bif_some' ht'
          rw [Bool.and_eq_true, Nat.beq_eq] at h1
          rw [T.seq_eq] at e; cases e
          obtain ⟨w', hst, hstp⟩ := write_stp (P := P) (nx := nx) hR hid htr hb hv.cells h1.2 h2
          have hs : v'.cells.size = n := by have := hv.cells.len; rw [h1.1] at this; simpa using this.symm
          refine ⟨w', ?_, rfl, hstp⟩
          simp [Instr.storeAt, Instr.sureAddr, storeVar, sizeOf_run hn, hs, hst]
        · cases e
      · cases e
    · cases e
  · cases e
noncomputable def evAlloc (P : Program) (h : T AO) (nx : Nat) (t : TypeId) : R := match zeroTy P t with | some z => evBox h nx t z | none => .bad
theorem evAlloc_run (hR : Rel ρ h.get w) {t : TypeId} {r : AV} {h' : T AO} {nx' : Nat} (e : evAlloc P h nx t = .ok r h' nx') (hf : Fr ρ nx nx') :
    ∃ ρ' u w', (Instr.alloc t true (.tuple #[])).run P w = .ok u w' ∧ VRel ρ' r u ∧ Stp ρ ρ' h.get h'.get w w' nx nx' := by
  unfold evAlloc at e
  split at e
  · rename_i z hz
    obtain ⟨z', h1, h2⟩ := zero_run (ρ := ρ) hz
    obtain ⟨ρ', u, w', k1, k2, k3⟩ := evBox_run (P := P) hR h2 e hf
    exact ⟨ρ', _, w', by simp only [Instr.alloc, Sem.run_bind, h1, Result.andThen_ok, k1, Sem.run_pure], k2, k3⟩
  · cases e
/-- A length. -/
def lenTy (P : Program) (t : TypeId) : Nat :=
  match P.underlying t with
  | some .string => 1
  | some (.slice _) => 2
  | _ => 0
noncomputable def evLen (P : Program) (t : TypeId) (x : AV) : Option AV :=
  match lenTy P t, x with
  | 1, .s n _ => some (.i .i64 (.ofNat n))
  | 1, .y (.t _ m) => some (.y (.g 0 (.ofNat m)))
  | 2, .sl _ _ n _ => some (.i .i64 (.ofNat n))
  | 2, .su _ _ n => some (.i .i64 (.ofNat n))
  | 2, .gs _ n => some (.i .i64 (.ofNat n))
  | 2, .ns => some (.i .i64 (.ofNat 0))
  | _, _ => none
theorem lenTy_is {t : TypeId} : (lenTy P t = 1 → P.underlying t = some .string) ∧ (lenTy P t = 2 → ∃ e, P.underlying t = some (.slice e)) := by
  unfold lenTy
  split <;> simp_all
theorem evLen_run {t ty : TypeId} {x : AV} {x' : Value} (hx : VRel ρ x x') {v : AV} (e : evLen P t x = some v) : ∃ u, (∀ w, (Builtin.len_ #[t] ty #[x']).run P w = .ok u w) ∧ VRel ρ v u := by
  obtain ⟨l1, l2⟩ := lenTy_is (P := P) (t := t)
  unfold evLen at e
  split at e <;> try cases e
  · rename_i n d k
    obtain ⟨s, rfl, hs⟩ := hx
    exact ⟨.int .i64 n, fun w => by simp [Builtin.len_, run_underlying (l1 k), goInt, hs.size], rfl⟩
  · rename_i id m k
    obtain ⟨n, d, s, _, rfl, hs, hm⟩ := hx
    exact ⟨.int .i64 n, fun w => by simp [Builtin.len_, run_underlying (l1 k), goInt, hs.size], n, rfl, by omega, by show (n : Int) ≤ (m : Int); omega⟩
  · rename_i id off n c k
    obtain ⟨d, hd⟩ := l2 k
    obtain ⟨b, C, _, rfl⟩ := hx
    exact ⟨.int .i64 n, fun w => by simp [Builtin.len_, run_underlying hd, goInt], rfl⟩
  · rename_i id off n k
    obtain ⟨d, hd⟩ := l2 k
    obtain ⟨b, C, o, c, _, rfl, _⟩ := hx
    exact ⟨.int .i64 n, fun w => by simp [Builtin.len_, run_underlying hd, goInt], rfl⟩
  · rename_i id n k
    obtain ⟨d, hd⟩ := l2 k
    obtain ⟨b, C, _, rfl, _⟩ := hx
    exact ⟨.int .i64 n, fun w => by simp [Builtin.len_, run_underlying hd, goInt], rfl⟩
  · rename_i k
    obtain ⟨d, hd⟩ := l2 k
    cases hx
    exact ⟨.int .i64 (0 : Nat), fun w => by simp [Builtin.len_, run_underlying hd, goInt], rfl⟩
/-- A length, of maps too. -/
noncomputable def evLenH (P : Program) (h : T AO) (t : TypeId) (x : AV) : Option AV :=
  match mapTy P t with
  | (0, _, _) => evLen P t x
  | _ => match mapOf h x with
    | some l => some (.i .i64 (.ofNat l.length))
    | none => none
theorem evLenH_run (hR : Rel ρ h.get w) {t ty : TypeId} {x : AV} {x' : Value} (hx : VRel ρ x x') {v : AV} (e : evLenH P h t x = some v) : ∃ u, (Builtin.len_ #[t] ty #[x']).run P w = .ok u w ∧ VRel ρ v u := by
  unfold evLenH at e
  split at e
  · obtain ⟨u, k2, k3⟩ := evLen_run (P := P) (ty := ty) hx e
    exact ⟨u, k2 w, k3⟩
  · rename_i p hne
    obtain ⟨hu, _⟩ := mapTy_is (P := P) (t := t) (kd := (mapTy P t).1) (k := (mapTy P t).2.1) (e := (mapTy P t).2.2) rfl (fun h0 => by
      apply hne (mapTy P t).2.1 (mapTy P t).2.2
      rw [← h0])
    split at e
    · rename_i l hl
      cases e
      rcases mapOf_is hR hx hl with ⟨rfl, rfl⟩ | ⟨id, b, C, es, clock, rfl, _, _, rfl, hb, hm⟩
      · exact ⟨goInt 0, by simp [Builtin.len_, run_underlying hu], rfl⟩
      · refine ⟨goInt es.size, by simp [Builtin.len_, run_underlying hu, getObj, Sem.run, hb], ?_⟩
        have := hm.length
        rw [this]; simp [VRel, goInt]
    · cases e
/-- A capacity, where it is known. -/
noncomputable def evCap (P : Program) (t : TypeId) (x : AV) : Option AV :=
  match lenTy P t, x with
  | 2, .sl _ _ _ c => some (.i .i64 (.ofNat c))
  | 2, .ns => some (.i .i64 (.ofNat 0))
  | _, _ => none
theorem evCap_run {t ty : TypeId} {x : AV} {x' : Value} (hx : VRel ρ x x') {v : AV} (e : evCap P t x = some v) : ∃ u, (∀ w, (Builtin.cap_ #[t] ty #[x']).run P w = .ok u w) ∧ VRel ρ v u := by
  obtain ⟨l1, l2⟩ := lenTy_is (P := P) (t := t)
  unfold evCap at e
  split at e <;> try cases e
  · rename_i id off n c k
    obtain ⟨d, hd⟩ := l2 k
    obtain ⟨b, C, _, rfl⟩ := hx
    exact ⟨.int .i64 c, fun w => by simp [Builtin.cap_, run_underlying hd, goInt], rfl⟩
  · rename_i k
    obtain ⟨d, hd⟩ := l2 k
    cases hx
    exact ⟨.int .i64 (0 : Nat), fun w => by simp [Builtin.cap_, run_underlying hd, goInt], rfl⟩
noncomputable def evMin (mx : Bool) (l : AVs) : Option AV :=
  match l with
  | .cons (.i k x) (.cons (.i _ y) .nil) => some (.i k (bif mx then (bif ltI x y then y else x) else (bif ltI y x then y else x)))
  | _ => none
theorem evMin_run {ts : Array TypeId} {ty : TypeId} {l : AVs} {m : List Value} (hm : VsRel ρ l m) {v : AV} {mx : Bool} (e : evMin mx l = some v) :
    ∃ u, (∀ w, (bif mx then Builtin.max_ ts ty m.toArray else Builtin.min_ ts ty m.toArray).run P w = .ok u w) ∧ VRel ρ v u := by
  unfold evMin at e
  split at e <;> cases e
  rename_i k x j y
  obtain ⟨v1, r1, rfl, h1, v2, r2, rfl, h2, h3⟩ := hm
  cases h1; cases h2; cases h3
  cases mx
  · refine ⟨.int k (if y < x then y else x), fun w => by simp [Builtin.min_, Builtin.min2], ?_⟩
    simp only [cond_false, ltI_eq, VRel]
    by_cases hh : y < x <;> simp [hh]
  · refine ⟨.int k (if y > x then y else x), fun w => by simp [Builtin.max_, Builtin.max2], ?_⟩
    simp only [cond_true, ltI_eq, VRel]
    by_cases hh : x < y <;> simp [hh]
def ofO (h : T AO) (nx : Nat) : Option AV → R
  | some v => .ok v h nx
  | none => .bad
/-- What the language gives. -/
noncomputable def evBuiltin (P : Program) (h : T AO) (nx : Nat) (b : Builtin) (ts : List TypeId) (l : AVs) : R :=
  match b, ts, l with
  | .append, [t, u], .cons s (.cons x .nil) => match x with | .i _ _ => evAppZ P h nx t u s x | _ => evAppend P h nx t u s x
  | .len, [t], .cons x .nil => ofO h nx (evLenH P h t x)
  | .cap, [t], .cons x .nil => ofO h nx (evCap P t x)
  | .min, _, l => ofO h nx (evMin false l)
  | .max, _, l => ofO h nx (evMin true l)
  | .copy, [t, _], .cons d (.cons s .nil) => evCopy P h nx t d s
  | .unsafeString, [t, _], .cons x (.cons n .nil) => evUStr P h nx t x n
  | .unsafeSliceData, _, .cons x .nil => ofO h nx (evSData x)
  | _, _, _ => .bad
theorem Does.pure {h : T AO} (hR : Rel ρ h.get w) {v : AV} {u : Value} {s : Sem Next} (hs : s.run P w = .ok (.value u) w) (hv : VRel ρ v u) : Does P ρ h h nx nx v s w := ⟨ρ, w, Stp.refl hR, .inl ⟨u, hs, hv⟩⟩
theorem ofO_is {h h' : T AO} {nx nx' : Nat} {o : Option AV} {v : AV} (e : ofO h nx o = .ok v h' nx') : o = some v ∧ h' = h ∧ nx' = nx := by cases o <;> cases e; exact ⟨rfl, rfl, rfl⟩
theorem evBuiltin_run (hR : Rel ρ h.get w) {b : Builtin} {ts : Array TypeId} {ty : TypeId} {cs : Array Bool} {l : AVs} {m : List Value} (hm : VsRel ρ l m) {v : AV} {h' : T AO} {nx' : Nat} (e : evBuiltin P h nx b ts.toList l = .ok v h' nx') (hf : Fr ρ nx nx') :
    Does P ρ h h' nx nx' v (builtin b ts ty cs m.toArray) w := by
  unfold evBuiltin at e
  split at e
  · rename_i t u s x hts
    have hts' : ts = #[t, u] := Array.toList_inj.1 hts
    subst hts'
    obtain ⟨v1, r1, rfl, h1, v2, r2, rfl, h2, h3⟩ := hm
    cases h3
    split at e
    · obtain ⟨ρ', vv, w', k1, k2, k3⟩ := evAppZ_run (P := P) (ty := ty) hR h1 h2 e hf
      exact ⟨ρ', w', k3, .inl ⟨vv, by simp [builtin, k1], k2⟩⟩
    · obtain ⟨ρ', vv, w', k1, k2, k3⟩ := evAppend_run (P := P) (ty := ty) hR h1 h2 e hf
      exact ⟨ρ', w', k3, .inl ⟨vv, by simp [builtin, k1], k2⟩⟩
  · rename_i t x hts
    have hts' : ts = #[t] := Array.toList_inj.1 hts
    subst hts'
    obtain ⟨v1, r1, rfl, h1, h3⟩ := hm
    cases h3
    obtain ⟨k1, rfl, rfl⟩ := ofO_is e
    obtain ⟨u, k2, k3⟩ := evLenH_run (P := P) (ty := ty) hR h1 k1
    exact Does.pure hR (by simp [builtin, k2]) k3
  · rename_i t x hts
    have hts' : ts = #[t] := Array.toList_inj.1 hts
    subst hts'
    obtain ⟨v1, r1, rfl, h1, h3⟩ := hm
    cases h3
    obtain ⟨k1, rfl, rfl⟩ := ofO_is e
    obtain ⟨u, k2, k3⟩ := evCap_run (P := P) (ty := ty) h1 k1
    exact Does.pure hR (by simp [builtin, k2]) k3
  · obtain ⟨k1, rfl, rfl⟩ := ofO_is e
    obtain ⟨u, k2, k3⟩ := evMin_run (P := P) (ts := ts) (ty := ty) hm k1
    exact Does.pure hR (by have := k2 w; simp only [cond_false] at this; simp [builtin, this]) k3
  · obtain ⟨k1, rfl, rfl⟩ := ofO_is e
    obtain ⟨u, k2, k3⟩ := evMin_run (P := P) (ts := ts) (ty := ty) hm k1
    exact Does.pure hR (by have := k2 w; simp only [cond_true] at this; simp [builtin, this]) k3
  · rename_i t u d s hts
    have hts' : ts = #[t, u] := Array.toList_inj.1 hts
    subst hts'
    obtain ⟨v1, r1, rfl, h1, v2, r2, rfl, h2, h3⟩ := hm
    cases h3
    obtain ⟨vv, w', k1, k2, k3⟩ := evCopy_run (P := P) (u := u) (ty := ty) hR h1 h2 e
    exact ⟨ρ, w', k3, .inl ⟨vv, by simp [builtin, k1], k2⟩⟩
  · rename_i t u x n hts
    have hts' : ts = #[t, u] := Array.toList_inj.1 hts
    subst hts'
    obtain ⟨v1, r1, rfl, h1, v2, r2, rfl, h2, h3⟩ := hm
    cases h3
    obtain ⟨vv, w', k1, k2, k3⟩ := evUStr_run (P := P) (it := u) (ty := ty) hR h1 h2 e
    exact ⟨ρ, w', k3, .inl ⟨vv, by simp [builtin, k1], k2⟩⟩
  · obtain ⟨v1, r1, rfl, h1, h3⟩ := hm
    cases h3
    obtain ⟨k1, rfl, rfl⟩ := ofO_is e
    obtain ⟨u, k2, k3⟩ := evSData_run (P := P) (ts := ts) (ty := ty) h1 k1
    exact Does.pure hR (by simp [builtin, k2]) k3
  · cases e
/-- An operation that enters no function. -/
noncomputable def evM (P : Program) (sl : T AV) (h : T AO) (nx : Nat) (op : Op) : R :=
  match op with
  | .alloc t => evAlloc P h nx t
  | .box t x => match evX sl x with | some v => evBox h nx t v | none => .bad
  | .load t x => match evX sl x with | some v => ofO h nx (evLoad P h t v) | none => .bad
  | .store t x y => match evX sl x, evX sl y with | some u, some v => evStore P h nx t u v | _, _ => .bad
  | .buildSlice t n ps => match evParts sl ps.toList with | some l => evRow P h nx t n l | none => .bad
  | .call c => match c.callee with
    | .builtin b => match evXs sl c.args.toList with | some l => evBuiltin P h nx b c.argTypes.toList l | none => .bad
    | _ => .bad
  | .makeSlice t l c => match evX sl l, evX sl c with | some u, some v => evMake P h nx t u v | _, _ => .bad
  | .convert s d x => match evX sl x with
    | some v => match evConv P s d v with
      | some r => .ok r h nx
      | none => match sbTy P s d with
        | some _ => evSBytes P h nx s d v
        | none => ofO h nx (evConvM P h s d v)
    | none => .bad
  | .binOp op t x y _ => match evX sl x, evX sl y with
    | some u, some v => match evBin P op t (isC x || isC y) u v with
      | some r => .ok r h nx
      | none => match evPtr P op t u v with
        | some r => .ok r h nx
        | none => match evY P op t u v with
          | some r => .ok r h nx
          | none => ofO h nx (evStructEq P op t u v)
    | _, _ => .bad
  | .range t x => match evX sl x with | some v => evRange P h nx t v | none => .bad
  | .next x b => match evX sl x with | some v => evNext h nx v b | none => .bad
  | .makeMap t r => match r with
    | none => evMkMap P h nx t none
    | some x => match evX sl x with | some v => evMkMap P h nx t (some (some v)) | none => .bad
  | .lookup t x k ok => match evX sl x, evX sl k with | some u, some v => ofO h nx (evLookup P h t u v ok) | _, _ => .bad
  | .mapUpdate t m k x => match evX sl m, evX sl k, evX sl x with | some u, some v, some y => evMapPut P h nx t u v y | _, _, _ => .bad
  | .insert t m k x => match evX sl m, evX sl k, evX sl x with | some u, some v, some y => evMapPut P h nx t u v y | _, _, _ => .bad
  | op => ofO h nx (evP P sl op)
theorem evM_run (hR : Rel ρ h.get w) (hS : SRel N ρ sl a) {o : Oper} {v : AV} {h' : T AO} {nx' : Nat} (e : evM P sl h nx o.op = .ok v h' nx') (hf : Fr ρ nx nx') : Does P ρ h h' nx nx' v (execOp a.eval o) w := by
  obtain ⟨dst, op, ty, pos, aft, g⟩ := o
  simp only at e
  have hp : ∀ {op : Op}, ofO h nx (evP P sl op) = .ok v h' nx' → Does P ρ h h' nx nx' v (execOp a.eval ⟨dst, op, ty, pos, aft, g⟩) w := by
    intro op e
    obtain ⟨k1, rfl, rfl⟩ := ofO_is e
    obtain ⟨u, k2, k3⟩ := evP_run (P := P) (o := ⟨dst, op, ty, pos, aft, g⟩) hS k1
    exact Does.pure hR (k2 w) k3
  unfold evM at e
  split at e
  · obtain ⟨ρ', u, w', k1, k2, k3⟩ := evAlloc_run hR e hf
    exact ⟨ρ', w', k3, .inl ⟨u, by simp [execOp, k1], k2⟩⟩
  · split at e
    · rename_i hx
      obtain ⟨ρ', u, w', k1, k2, k3⟩ := evBox_run (P := P) hR (evX_rel hS hx) e hf
      exact ⟨ρ', w', k3, .inl ⟨_, by simp [execOp, Instr.box, k1], k2⟩⟩
    · cases e
  · split at e
    · rename_i hx
      obtain ⟨k1, rfl, rfl⟩ := ofO_is e
      obtain ⟨u, k2, k3⟩ := evLoad_run hR (evX_rel hS hx) k1
      exact Does.pure hR (by simp [execOp, k2]) k3
    · cases e
  · split at e
    · rename_i hx hy
      obtain ⟨w', k1, rfl, k3⟩ := evStore_run hR (evX_rel hS hx) (evX_rel hS hy) e
      exact ⟨ρ, w', k3, .inr ⟨by simp [execOp, k1], rfl⟩⟩
    · cases e
  · split at e
    · rename_i ps _ l hl
      obtain ⟨ρ', u, w', k1, k2, k3⟩ := evRow_run (P := P) hR (m := ps.map fun x => (x.1, a.eval x.2)) (by simpa using evParts_rel hS hl) e hf
      exact ⟨ρ', w', k3, .inl ⟨u, by simp only [execOp]; simp [k1], k2⟩⟩
    · cases e
  · rename_i c
    split at e
    · rename_i b hb
      split at e
      · rename_i l hl
        obtain ⟨ρ', w', k1, k2⟩ := evBuiltin_run (P := P) (ts := c.argTypes) (ty := ty) (cs := c.args.map fun | .const _ => true | _ => false) hR (evXs_rel hS hl) e hf
        refine ⟨ρ', w', k1, ?_⟩
        have : (execOp a.eval ⟨dst, .call c, ty, pos, aft, g⟩).run P w = (builtin b c.argTypes ty (c.args.map fun | .const _ => true | _ => false) (c.args.toList.map a.eval).toArray).run P w := by
          simp only [execOp, resolve, hb, Sem.run_bind, Sem.run_pure, Result.andThen_ok, invoke]
          congr 2
          apply Array.ext'; simp
        rw [this]; exact k2
      · cases e
    · cases e
  · split at e
    · rename_i hx hy
      obtain ⟨ρ', u, w', k1, k2, k3⟩ := evMake_run (P := P) hR (evX_rel hS hx) (evX_rel hS hy) e hf
      exact ⟨ρ', w', k3, .inl ⟨u, by simp [execOp, k1], k2⟩⟩
    · cases e
  · split at e
    · rename_i hx
      split at e
      · rename_i r hr
        cases e
        obtain ⟨u, k1, k2⟩ := evConv_run (P := P) (evX_rel hS hx) hr
        exact Does.pure hR (by simp [execOp, k1]) k2
      · split at e
        · obtain ⟨ρ', u, w', k1, k2, k3⟩ := evSBytes_run (P := P) hR (evX_rel hS hx) e hf
          exact ⟨ρ', w', k3, .inl ⟨u, by simp [execOp, k1], k2⟩⟩
        · obtain ⟨k1, rfl, rfl⟩ := ofO_is e
          obtain ⟨u, k2, k3⟩ := evConvM_run hR (evX_rel hS hx) k1
          exact Does.pure hR (by simp [execOp, k2]) k3
    · cases e
  · split at e
    · rename_i hx hy
      split at e
      · rename_i r hr
        cases e
        obtain ⟨u, k1, k2⟩ := evBin_run (P := P) (evX_rel hS hx) (evX_rel hS hy) hr
        refine Does.pure hR ?_ k2
        simp only [execOp]
        rw [Sem.run_bind, k1 w]; rfl
      · split at e
        · rename_i k1
          cases e
          obtain ⟨u, k2, k3⟩ := evPtr_run (P := P) (evX_rel hS hx) (evX_rel hS hy) k1
          refine Does.pure hR ?_ k3
          simp only [execOp]
          rw [Sem.run_bind, k2 w]; rfl
        · split at e
          · rename_i k1
            cases e
            obtain ⟨u, k2, k3⟩ := evY_run (P := P) (evX_rel hS hx) (evX_rel hS hy) k1
            refine Does.pure hR ?_ k3
            simp only [execOp]
            rw [Sem.run_bind, k2 w]; rfl
          · obtain ⟨k1, rfl, rfl⟩ := ofO_is e
            obtain ⟨u, k2, k3⟩ := evStructEq_run (P := P) (evX_rel hS hx) (evX_rel hS hy) k1
            refine Does.pure hR ?_ k3
            simp only [execOp]
            rw [Sem.run_bind, k2 w]; rfl
    · cases e
  · split at e
    · rename_i hx
      obtain ⟨ρ', u, w', k1, k2, k3⟩ := evRange_run (P := P) hR (evX_rel hS hx) e hf
      exact ⟨ρ', w', k3, .inl ⟨u, by simp [execOp, k1], k2⟩⟩
    · cases e
  · split at e
    · rename_i hx
      obtain ⟨u, w', k1, k2, k3⟩ := evNext_run (P := P) (t := ty) hR (evX_rel hS hx) e
      exact ⟨ρ, w', k3, .inl ⟨u, by simp [execOp, k1], k2⟩⟩
    · cases e
  · split at e
    · obtain ⟨ρ', u, w', k1, k2, k3⟩ := evMkMap_run (P := P) hR (x := none) (y := none) rfl e hf
      exact ⟨ρ', w', k3, .inl ⟨u, by simp [execOp, k1], k2⟩⟩
    · split at e
      · rename_i x _ v' hx
        obtain ⟨ρ', u, w', k1, k2, k3⟩ := evMkMap_run (P := P) hR (x := some (some v')) (y := some (a.eval x)) ⟨_, rfl, evX_rel hS hx⟩ e hf
        exact ⟨ρ', w', k3, .inl ⟨u, by simp [execOp, k1], k2⟩⟩
      · cases e
  · split at e
    · rename_i hx hk
      obtain ⟨k1, rfl, rfl⟩ := ofO_is e
      obtain ⟨u, k2, k3⟩ := evLookup_run hR (evX_rel hS hx) (evX_rel hS hk) k1
      exact Does.pure hR (by simp [execOp, k2]) k3
    · cases e
  · split at e
    · rename_i hx hk hy
      obtain ⟨w', k1, rfl, k3⟩ := evMapPut_run hR (evX_rel hS hx) (evX_rel hS hk) (evX_rel hS hy) e
      exact ⟨ρ, w', k3, .inr ⟨by simp [execOp, k1], rfl⟩⟩
    · cases e
  · split at e
    · rename_i hx hk hy
      obtain ⟨w', k1, rfl, k3⟩ := evMapPut_run hR (evX_rel hS hx) (evX_rel hS hk) (evX_rel hS hy) e
      exact ⟨ρ, w', k3, .inr ⟨by simp [execOp, k1], rfl⟩⟩
    · cases e
  · exact hp e
end Go.Proofs.YteogphbdpjnjoaaGreat
namespace Go.Proofs.YteogphbdpjnjoaaGreat
open Go.RowKit
variable {ρ : Map} {P : Program} {N : Nat} {sl : T AV} {a : Act} {h : T AO} {w : World} {nx : Nat}

/-- A function that is entered. -/
def fnOk (P : Program) (f : FuncId) : Bool :=
  match P.funcs[f]? with
  | some fn => fn.body.isSome && !(fn.name == "runtime.NumGoroutine")
  | none => false
/-- What is called: a function, or yield of a range over a function. -/
inductive Tgt where
  | fn (f : FuncId)
  | yl (id : Nat)
abbrev Caller := Tgt → AVs → T AO → Nat → R
/-- A fence that forbids nothing but, within a round, other rounds. -/
abbrev Calm (F : Fence) : Prop := F.depth = none ∧ F.alive = false
/-- What lies outside: functions without a body. -/
def ExtOk (P : Program) (X : Caller) : Prop :=
  ∀ f l h nx v h' nx', X (.fn f) l h nx = .ok v h' nx' → nx ≤ nx' ∧ ∀ ρ w m, Rel ρ h.get w → VsRel ρ l m → Fr ρ nx nx' → Does P ρ h h' nx nx' v (callFunc f m.toArray) w
noncomputable def evOper (P : Program) (X call : Caller) (sl : T AV) (h : T AO) (nx : Nat) (op : Op) : R :=
  match op with
  | .call c => match c.callee with
    | .value f => match evX sl f, evXs sl c.args.toList with
      | some (.fn g caps), some l => bif fnOk P g then call (.fn g) (l.app caps) h nx else X (.fn g) (l.app caps) h nx
      | some (.yl id), some l => call (.yl id) l h nx
      | _, _ => .bad
    | _ => evM P sl h nx op
  | op => evM P sl h nx op
inductive RSv where
  | ok (sl : T AV) (h : T AO) (nx : Nat)
  | bad
/-- Is an operation to be done? -/
noncomputable def evWanted (ops : Array Oper) (o : Oper) (sl : T AV) : Option Bool :=
  match o.guard with
  | none => some true
  | some (j, want) => match (ops[j]?).bind (·.dst) with
    | some t => match sl.get t with | some (.b x) => some (x == want) | some (.tup _) => some false | _ => none
    | none => none
noncomputable def putD (N : Nat) (dst : Option Nat) (v : AV) (sl : T AV) : Option (T AV) :=
  match dst with
  | none => some sl
  | some d => bif Nat.ble (Nat.succ d) N then (sl.put d v).seq fun sl => some sl else none
noncomputable def evOps (P : Program) (X call : Caller) (N : Nat) (ops : Array Oper) : List Oper → T AV → T AO → Nat → RSv
  | [], sl, h, nx => .ok sl h nx
  | o :: rest, sl, h, nx => match evWanted ops o sl with
    | some true => match evOper P X call sl h nx o.op with
      | .ok v h1 nx1 => bif Nat.ble nx nx1 then match putD N o.dst v sl with
        | some sl => evOps P X call N ops rest sl h1 nx1
        | none => .bad else .bad
      | .bad => .bad
    | some false => match putD N o.dst (.tup .nil) sl with
      | some sl => evOps P X call N ops rest sl h nx
      | none => .bad
    | none => .bad
structure CallOk (P : Program) (call : Caller) : Prop where
  fn : ∀ f l h nx v h' nx', call (.fn f) l h nx = .ok v h' nx' → nx ≤ nx' ∧ ∀ (F : Fence) (n : Nat) ρ w m, (∀ f, F.fn f) → Calm F → F.round = none → Rel ρ h.get w → VsRel ρ l m → Fr ρ nx nx' →
    CallsIn F n P f m.toArray w fun e w' => ∃ ρ' u, Stp ρ ρ' h.get h'.get w w' nx nx' ∧ e = .returned u ∧ VRel ρ' v u
  yl : ∀ id l h nx v h' nx', call (.yl id) l h nx = .ok v h' nx' → nx ≤ nx' ∧ ∀ (F : Fence) (n : Nat) ρ w m, (∀ f, F.fn f) → Calm F → Rel ρ h.get w → VsRel ρ l m → Fr ρ nx nx' → ∀ b C, ρ id = some (b, C) →
    ∃ f tmps asg bd, (Instr.yield b m.toArray).run P w = .ok (.round b f tmps asg bd) w ∧ RoundIn F n P b f tmps asg bd w fun e w' => ∃ ρ' u, Stp ρ ρ' h.get h'.get w w' nx nx' ∧ e = .returned u ∧ VRel ρ' v u
theorem putD_rel (hS : SRel N ρ sl a) {dst : Option Nat} {v : AV} {u : Value} (hv : VRel ρ v u) {sl' : T AV} (e : putD N dst v sl = some sl') : SRel N ρ sl' (a.put dst u) := by
  unfold putD at e
  split at e
  · cases e; exact hS
  · obtain ⟨h1, e⟩ := bif_some' e
    rw [Nat.ble_eq] at h1
    rw [T.seq_eq] at e; cases e
    exact hS.put h1 hv
theorem evWanted_is (hS : SRel N ρ sl a) {ops : Array Oper} {o : Oper} {b : Bool} (e : evWanted ops o sl = some b) : Region.wanted o (yielded ops a.tmps) = b := by
  unfold evWanted at e
  split at e
  · rename_i hg; cases e; simp [Region.wanted, hg]
  · rename_i j want hg
    split at e
    · rename_i t ht
      split at e
      · rename_i x hx
        cases e
        obtain ⟨h1, h2⟩ := hS.get t _ hx
        have h3 : a.tmps[t]? = some (.bool x) := by
          have : t < a.tmps.size := by rw [hS.size]; exact h1
          have h4 : a.tmps.getD t undef = .bool x := h2
          rw [Array.getElem?_eq_getElem this]
          simpa [Array.getD, this] using h4
        simp only [Region.wanted, hg, yielded, ht, Option.bind_some, h3]
        cases x <;> cases want <;> rfl
      · rename_i x hx
        cases e
        obtain ⟨h1, h2⟩ := hS.get t _ hx
        obtain ⟨c, h4, _⟩ := h2
        have h3 : a.tmps[t]? = some (.tuple c) := by
          have : t < a.tmps.size := by rw [hS.size]; exact h1
          rw [Array.getElem?_eq_getElem this]
          simpa [Array.getD, this] using h4
        simp only [Region.wanted, hg, yielded, ht, Option.bind_some, h3]
        rfl
      · cases e
    · cases e
theorem put_defers (a : Act) (d : Option Tmp) (v : Value) : (a.put d v).defers = a.defers := by cases d <;> rfl
theorem evOper_defer {X call : Caller} {op : Op} {v : AV} {h' : T AO} {nx' : Nat} (e : evOper P X call sl h nx op = .ok v h' nx') : ∀ c, op ≠ .defer c := by
  rintro c rfl
  simp [evOper, evM, evP, ofO] at e
theorem semAt_ok {r : Option Nat} {o : Oper} (h : ∀ c, o.op ≠ .defer c) (ev : Operand → Value) : Oper.semAt r ev o = execOp ev o := by
  cases r with
  | none => exact Oper.semAt_none ev o
  | some l => exact Oper.semAt_some l ev o h
theorem evOps_le {X call : Caller} {ops : Array Oper} : ∀ {l : List Oper} {sl sl' : T AV} {h h' : T AO} {nx nx' : Nat}, evOps P X call N ops l sl h nx = .ok sl' h' nx' → nx ≤ nx'
  | [], sl, sl', h, h', nx, nx', e => by simp only [evOps] at e; cases e; exact Nat.le_refl _
  | o :: rest, sl, sl', h, h', nx, nx', e => by
    simp only [evOps] at e
    split at e
    · split at e
      · rename_i v h1 nx1 _
        cases hb : Nat.ble nx nx1 with
        | false => simp [hb] at e
        | true =>
          rw [hb, cond_true] at e
          rw [Nat.ble_eq] at hb
          split at e
          · exact Nat.le_trans hb (evOps_le e)
          · cases e
      · cases e
    · split at e
      · exact evOps_le e
      · cases e
    · cases e
section
variable {F : Fence} {n : Nat} (hF : ∀ f, F.fn f) (hD : Calm F)
include hF hD
/-- One operation, whatever comes behind it. -/
theorem oper_run {X call : Caller} (hX : ExtOk P X) (hC : CallOk P call) {Q : Exit → Act → World → Prop} {o : Oper} {v : AV} {h1 : T AO} {nx1 : Nat} {next : Act → World → Prop}
    (ho : evOper P X call sl h nx o.op = .ok v h1 nx1) (hR : Rel ρ h.get w) (hS : SRel N ρ sl a) (hf1 : Fr ρ nx nx1)
    (go : ∀ (ρ1 : Map) (u : Value) (w1 : World), Stp ρ ρ1 h.get h1.get w w1 nx nx1 → VRel ρ1 v u → next (a.put o.dst u) w1) : o.wpIn F n P a w next Q := by
  refine ⟨fun f _ => hF f, ?_⟩
  rw [semAt_ok (evOper_defer ho)]
  have viaM : evM P sl h nx o.op = .ok v h1 nx1 → o.uponIn F n P a next Q ((execOp a.eval o).run P w) := by
    intro hm
    obtain ⟨ρ1, w1, hs, hr⟩ := evM_run hR hS hm hf1
    rcases hr with ⟨u, hrun, hv⟩ | ⟨hrun, rfl⟩
    · rw [hrun]; exact go ρ1 u w1 hs hv
    · rw [hrun]; exact go ρ1 undef w1 hs ⟨#[], rfl, rfl⟩
  unfold evOper at ho
  split at ho
  · rename_i c hop
    split at ho
    · rename_i f hcal
      split at ho
      · rename_i g caps l hg hl
        obtain ⟨cv, hgv, hcaps⟩ := evX_rel hS hg
        have hargs := (evXs_rel hS hl).app hcaps
        have hexec : (execOp a.eval o).run P w = (callFunc g ((c.args.toList.map a.eval) ++ cv.toList).toArray).run P w := by
          have : ((c.args.toList.map a.eval) ++ cv.toList).toArray = #[] ++ c.args.map a.eval ++ cv := by apply Array.ext'; simp
          rw [this]
          simp only [execOp, hop, resolve, hcal, hgv, Deferred.ofValue, Sem.run_bind, Sem.run_pure, Result.andThen_ok, invoke]
        cases hok : fnOk P g with
        | true =>
          rw [hok, cond_true] at ho
          obtain ⟨_, hcall⟩ := hC.fn _ _ _ _ _ _ _ ho
          have hrun : (execOp a.eval o).run P w = .ok (.enter g ((c.args.toList.map a.eval) ++ cv.toList).toArray) w := by
            rw [hexec]
            unfold fnOk at hok
            cases hfn : P.funcs[g]? with
            | none => simp [hfn] at hok
            | some fn =>
              simp only [hfn, Bool.and_eq_true, Bool.not_eq_true'] at hok
              have hb1 : fn.body.isNone = false := by cases hbb : fn.body <;> simp [hbb] at hok ⊢
              simp only [callFunc, Sem.run_bind, Sem.run_pure, Result.andThen_ok, run_program, hfn, hok.2, Bool.false_eq_true, if_false, hb1]
          rw [hrun]
          refine ⟨fun hd => by simp [hD.1] at hd, ?_⟩
          have hcall' := hcall F.plain (n - 1) ρ w _ hF hD rfl hR hargs hf1
          refine CallsIn.mono (show CallsIn F (n - 1) P g _ w _ from hcall') ?_
          rintro e' w' ⟨ρ1, u, hs, rfl, hv⟩
          exact go ρ1 u w' hs hv
        | false =>
          rw [hok, cond_false] at ho
          obtain ⟨_, hx⟩ := hX _ _ _ _ _ _ _ ho
          obtain ⟨ρ1, w1, hs, hr⟩ := hx ρ w _ hR hargs hf1
          rw [hexec]
          rcases hr with ⟨u, hrun, hv⟩ | ⟨hrun, rfl⟩
          · rw [hrun]; exact go ρ1 u w1 hs hv
          · rw [hrun]; exact go ρ1 undef w1 hs ⟨#[], rfl, rfl⟩
      · rename_i id l hg hl
        obtain ⟨b, C, hb, hgv⟩ := evX_rel hS hg
        obtain ⟨_, hy⟩ := hC.yl _ _ _ _ _ _ _ ho
        obtain ⟨f', tmps, asg, bd, hrun, hround⟩ := hy F (n - 1) ρ w _ hF hD hR (evXs_rel hS hl) hf1 b C hb
        have hexec : (execOp a.eval o).run P w = (Instr.yield b (c.args.toList.map a.eval).toArray).run P w := by
          have : (c.args.toList.map a.eval).toArray = #[] ++ c.args.map a.eval := by apply Array.ext'; simp
          rw [this]
          simp only [execOp, hop, resolve, hcal, hgv, Deferred.ofValue, Sem.run_bind, Sem.run_pure, Result.andThen_ok, invoke]
        rw [hexec, hrun]
        refine ⟨fun hd => by simp [hD.1] at hd, ?_⟩
        refine RoundIn.mono hround ?_
        rintro e' w' ⟨ρ1, u, hs, rfl, hv⟩
        exact go ρ1 u w' hs hv
      · cases ho
    · exact viaM ho
  · exact viaM ho
theorem evOps_run {X call : Caller} (hX : ExtOk P X) (hC : CallOk P call) {ops : Array Oper} {Q : Exit → Act → World → Prop} : ∀ {l : List Oper} {sl sl' : T AV} {h h' : T AO} {nx nx' : Nat} {ρ : Map} {a : Act} {w : World},
    evOps P X call N ops l sl h nx = .ok sl' h' nx' → Rel ρ h.get w → SRel N ρ sl a → Fr ρ nx nx' →
    (∀ ρ' a' w', Stp ρ ρ' h.get h'.get w w' nx nx' → SRel N ρ' sl' a' → a'.defers = a.defers → Q .normal a' w') → wpListIn F n P ops Q l a w
  | [], sl, sl', h, h', nx, nx', ρ, a, w, e, hR, hS, hf, hQ => by
    simp only [evOps] at e; cases e
    exact hQ ρ a w (Stp.refl hR) hS rfl
  | o :: rest, sl, sl', h, h', nx, nx', ρ, a, w, e, hR, hS, hf, hQ => by
    simp only [evOps] at e
    have habout : ∀ f, o.about P w a.eval = some f → F.fn f := fun f _ => hF f
    split at e
    · rename_i hw
      have hw' := evWanted_is hS hw
      split at e
      · rename_i v h1 nx1 ho
        cases hb : Nat.ble nx nx1 with
        | false => simp [hb] at e
        | true =>
          rw [hb, cond_true] at e
          rw [Nat.ble_eq] at hb
          split at e
          · rename_i sl1 hsl
            have hle := evOps_le e
            simp only [wpListIn, hw', if_true]
            refine oper_run hF hD hX hC ho hR hS (hf.left hle) fun ρ1 u w1 hs hv => ?_
            exact evOps_run hX hC e hs.rel (putD_rel (hS.mono hs.le) hv hsl) (hs.fr hf) fun ρ' a' w' hs' hS' hd => hQ ρ' a' w' (hs.trans hs') hS' (hd.trans (put_defers _ _ _))
          · cases e
      · cases e
    · rename_i hw
      have hw' := evWanted_is hS hw
      split at e
      · rename_i sl1 hsl
        simp only [wpListIn, hw', Bool.false_eq_true, if_false]
        refine ⟨habout, evOps_run hX hC e hR (putD_rel hS (v := .tup .nil) (u := undef) ⟨#[], rfl, rfl⟩ hsl) hf fun ρ' a' w' hs' hS' hd => hQ ρ' a' w' hs' hS' (hd.trans (put_defers _ _ _))⟩
      · cases e
    · cases e
end
end Go.Proofs.YteogphbdpjnjoaaGreat
namespace Go.Proofs.YteogphbdpjnjoaaGreat
open Go.RowKit
variable {P : Program} {N : Nat}

/-- How code is left. -/
inductive XT where
  | nrm
  | ret
  | ex (id : Nat)
def XT.exit : XT → Exit
  | .nrm => .normal
  | .ret => .ret
  | .ex id => .exit id
inductive RC where
  | ok (x : XT) (sl : T AV) (h : T AO) (nx : Nat)
  | bad
abbrev Coder := Code → T AV → T AO → Nat → RC
noncomputable def evSeq (rec : Coder) (x y : Code) (sl : T AV) (h : T AO) (nx : Nat) : RC :=
  match rec x sl h nx with
  | .ok .nrm sl h nx => rec y sl h nx
  | r => r
noncomputable def evCond (rec : Coder) (c : Operand) (x y : Code) (sl : T AV) (h : T AO) (nx : Nat) : RC :=
  match evX sl c with
  | some (.b true) => rec x sl h nx
  | some (.b false) => rec y sl h nx
  | _ => .bad
noncomputable def evBlock (rec : Coder) (id : Nat) (b : Code) (sl : T AV) (h : T AO) (nx : Nat) : RC :=
  match rec b sl h nx with
  | .ok (.ex j) sl h nx => bif Nat.beq j id then .ok .nrm sl h nx else .ok (.ex j) sl h nx
  | r => r
noncomputable def evLoop (rec : Coder) (b : Code) (sl : T AV) (h : T AO) (nx : Nat) : RC :=
  match rec b sl h nx with
  | .ok .nrm sl h nx => rec (.loop b) sl h nx
  | r => r
abbrev Drawer := Array Oper → T AV → T AO → Nat → RSv
noncomputable def evRegion (P : Program) (X call : Caller) (D : Drawer) (N : Nat) (ops : Array Oper) (d : Bool) (sl : T AV) (h : T AO) (nx : Nat) : RC :=
  match (bif d then D ops sl h nx else evOps P X call N ops ops.toList sl h nx) with
  | .ok sl h nx => .ok .nrm sl h nx
  | .bad => .bad
/-- What a range over a function leaves. -/
def pendX : Option (Option Nat) → XT
  | none => .nrm
  | some none => .ret
  | some (some id) => .ex id
def pendOf : XT → Option (Option Nat)
  | .nrm => none
  | .ret => some none
  | .ex id => some (some id)
noncomputable def evRangeF (P : Program) (call : Caller) (N : Nat) (g : Operand) (ps : Array Tmp) (asg bd : Code) (sl : T AV) (h : T AO) (nx : Nat) : RC :=
  match evX sl g with
  | some (.fn f caps) => bif fnOk P f then
      (h.put nx (.lp ps asg bd sl N none)).seq fun h0 => match call (.fn f) (.cons (.yl nx) caps) h0 (Nat.succ nx) with
      | .ok _ h1 nx1 => match h1.get nx with
        | some (.lp _ _ _ _ _ pend) => (h1.del nx).seq fun h2 => .ok (pendX pend) sl h2 nx1
        | _ => .bad
      | .bad => .bad
    else .bad
  | _ => .bad
noncomputable def evCode1 (P : Program) (X call : Caller) (D : Drawer) (N : Nat) (q : Bool) (rec : Coder) (c : Code) (sl : T AV) (h : T AO) (nx : Nat) : RC :=
  match c with
  | .skip => .ok .nrm sl h nx
  | .label _ => .ok .nrm sl h nx
  | .seq x y => evSeq rec x y sl h nx
  | .cond c x y => evCond rec c x y sl h nx
  | .block id b => evBlock rec id b sl h nx
  | .loop b => evLoop rec b sl h nx
  | .exit id => .ok (.ex id) sl h nx
  | .ret => .ok .ret sl h nx
  | .region _ ops d => evRegion P X call D N ops d sl h nx
  | .rangeFunc g ps asg bd => bif q then evRangeF P call N g ps asg bd sl h nx else .bad
  | _ => .bad
noncomputable def evCode (P : Program) (X call : Caller) (D : Drawer) (N : Nat) (q : Bool) (n : Nat) : Coder :=
  Nat.rec (motive := fun _ => Coder) (fun _ _ _ _ => .bad) (fun _ rec => evCode1 P X call D N q rec) n
theorem evCode_succ {X call : Caller} {D : Drawer} {q : Bool} {n : Nat} {c : Code} {sl : T AV} {h : T AO} {nx : Nat} : evCode P X call D N q (n + 1) c sl h nx = evCode1 P X call D N q (evCode P X call D N q n) c sl h nx := rfl
/-- The marks of deferred calls that an activation bears. -/
structure Mk (B : Nat) (H : Heap) (ρ : Map) (w : World) (ds : List Deferred) : Prop where
  low : B ≤ w.heap.size
  dif : ds.Pairwise fun x y => x.target ≠ y.target
  all : ∀ d ∈ ds, ∃ r, d.target = .collected r ∧ B ≤ r ∧ w.heap[r]? = some (.deferred (some [])) ∧ ∀ id o C, H id = some o → ρ id ≠ some (r, C)
theorem Mk.stp {B : Nat} {H H' : Heap} {ρ ρ' : Map} {w w' : World} {ds : List Deferred} {n n' : Nat} (h : Mk B H ρ w ds) (s : Stp ρ ρ' H H' w w' n n') : Mk B H' ρ' w' ds where
  low := Nat.le_trans h.low s.size
  dif := h.dif
  all := fun d hd => by
    obtain ⟨r, h1, h2, h3, h4⟩ := h.all d hd
    have hlt := (Array.getElem?_eq_some_iff.1 h3).1
    exact ⟨r, h1, h2, by rw [s.keep r hlt h4]; exact h3, s.away hlt h4⟩
theorem Mk.nil {B : Nat} {H : Heap} {ρ : Map} {w : World} (h : B ≤ w.heap.size) : Mk B H ρ w [] := ⟨h, .nil, fun d hd => nomatch hd⟩
/-- A function leaves: its marks are taken. -/
theorem leaves_marks {F : Fence} {n B : Nat} {fn : Func} {tmps : Array Value} {R : Ending → World → Prop} {ρ0 ρ : Map} {H0 H : Heap} {w0 : World} {c c' : Nat} (hB : w0.heap.size ≤ B) (go : ∀ w, Stp ρ0 ρ H0 H w0 w c c' → ∃ v, (results fn tmps).run P w = .ok v w ∧ R (.returned v) w) :
    ∀ (ds : List Deferred) (w : World), Stp ρ0 ρ H0 H w0 w c c' → Mk B H ρ w ds → LeavesInM F n P fn tmps R ds .returning w
  | [], w, s, _ => by unfold LeavesInM LeavesIn; exact go w s
  | d :: ds, w, s, m => by
    obtain ⟨r, h1, h2, h3, h4⟩ := m.all d (List.mem_cons_self ..)
    unfold LeavesInM
    have hd := List.pairwise_cons.1 m.dif
    refine ⟨by simp, .inl ⟨r, w.putObj r (.deferred none), h1, run_takeDeferred h3, leaves_marks hB go ds _ (s.poke (b := r) (.inl (Nat.le_trans hB h2)) h4 rfl rfl rfl World.putObj_size fun k hk => World.putObj_heap_other hk) ⟨by rw [World.putObj_size]; exact m.low, hd.2, fun e he => ?_⟩⟩⟩
    obtain ⟨r', k1, k2, k3, k4⟩ := m.all e (List.mem_cons_of_mem _ he)
    have hne : r' ≠ r := by
      rintro rfl
      exact hd.1 e he (h1.trans k1.symm)
    exact ⟨r', k1, k2, by rw [World.putObj_heap_other hne]; exact k3, k4⟩
/-- What a drawer must keep. -/
def DrawOk (P : Program) (N : Nat) (D : Drawer) : Prop :=
  ∀ ops sl h nx sl' h' nx', D ops sl h nx = .ok sl' h' nx' → nx ≤ nx' ∧ ∀ (F : Fence) (n : Nat) id ρ a w (Q : Exit → Act → World → Prop), (∀ f, F.fn f) → Calm F → Rel ρ h.get w → SRel N ρ sl a → Fr ρ nx nx' →
    (∀ ρ' a' w', Stp ρ ρ' h.get h'.get w w' nx nx' → SRel N ρ' sl' a' → a'.defers = a.defers → Q .normal a' w') → (Code.region id ops true).wpIn F n P Q a w
theorem wpIn_loop_g {F : Fence} {n : Nat} {Q : Exit → Act → World → Prop} {a : Act} {w : World} {c : Code} (I : Nat → Act → World → Prop) (m : Nat) (h0 : I m a w)
    (round : ∀ m a w, I m a w → c.wpIn F n P (Exit.then (fun a' w' => ∃ m', m' < m ∧ I m' a' w') Q) a w) : (Code.loop c).wpIn F n P Q a w := by
  intro b k cs hro hb hr
  have key : ∀ j a w, I j a w → ∃ e a' w', Q e a' w' ∧ ArrivesIn (Machine.fenced P F) P (lone (b.atR a (.code c :: .inLoop c :: k)) cs w) b k cs e a' w' := by
    intro j
    induction j using Nat.strongRecOn with
    | _ j ih =>
      intro a w hI
      obtain ⟨e, a₁, w₁, hq, harr⟩ := round j a w hI b (.inLoop c :: k) cs hro hb hr
      cases e with
      | normal =>
        obtain ⟨m', hlt, hI₁⟩ := hq
        obtain ⟨e₂, a₂, w₂, hq₂, harr₂⟩ := ih m' hlt a₁ w₁ hI₁
        exact ⟨e₂, a₂, w₂, hq₂, .of_steps (StepsIn.trans harr (.one (fenced_calm hb hr rfl) stepR_inLoop)) harr₂⟩
      | exit id => exact ⟨_, a₁, w₁, hq, .pass (x := .inLoop c) rfl (fun _ _ => .inl (by simp)) harr⟩
      | goto l => exact ⟨_, a₁, w₁, hq, .pass (x := .inLoop c) rfl (fun _ _ => .inl (by simp)) harr⟩
      | ret => exact ⟨_, a₁, w₁, hq, .pass (x := .inLoop c) rfl (fun _ _ => .inl (by simp)) harr⟩
      | panic ch => exact ⟨_, a₁, w₁, hq, .pass (x := .inLoop c) rfl (fun _ _ => .inl (by simp)) harr⟩
      | outgrown => exact ⟨_, a₁, w₁, hq, .pass (x := .inLoop c) rfl (fun _ _ => .inl (by simp)) harr⟩
  obtain ⟨e, a', w', hq, harr⟩ := key m a w h0
  exact ⟨e, a', w', hq, .of_steps (.one (fenced_calm hb hr rfl) stepR_loop) harr⟩
def CodeOk (P : Program) (N : Nat) (q : Bool) (rec : Coder) : Prop :=
  ∀ c sl h nx x sl' h' nx', rec c sl h nx = .ok x sl' h' nx' → nx ≤ nx' ∧ ∀ (F : Fence) (n B : Nat) ρ a w (Q : Exit → Act → World → Prop), (∀ f, F.fn f) → Calm F → (q = true → F.round = none) → Rel ρ h.get w → SRel N ρ sl a → Fr ρ nx nx' → (q = true → Mk B h.get ρ w a.defers) →
    (∀ ρ' a' w', Stp ρ ρ' h.get h'.get w w' nx nx' → SRel N ρ' sl' a' → (q = true → Mk B h'.get ρ' w' a'.defers) → Q x.exit a' w') → c.wpIn F n P Q a w
theorem rangeF_run {call : Caller} (hC : CallOk P call) {g : Operand} {ps : Array Tmp} {asg bd : Code} {sl sl' : T AV} {h h' : T AO} {nx nx' : Nat} {x : XT} (e : evRangeF P call N g ps asg bd sl h nx = .ok x sl' h' nx') :
    nx ≤ nx' ∧ ∀ (F : Fence) (n B : Nat) ρ a w (Q : Exit → Act → World → Prop), (∀ f, F.fn f) → Calm F → F.round = none → Rel ρ h.get w → SRel N ρ sl a → Fr ρ nx nx' → Mk B h.get ρ w a.defers →
      (∀ ρ' a' w', Stp ρ ρ' h.get h'.get w w' nx nx' → SRel N ρ' sl' a' → Mk B h'.get ρ' w' a'.defers → Q x.exit a' w') → (Code.rangeFunc g ps asg bd).wpIn F n P Q a w := by
  unfold evRangeF at e
  split at e
  · rename_i f caps hg
    cases hok : fnOk P f with
    | false => rw [hok, cond_false] at e; cases e
    | true =>
      rw [hok, cond_true, T.seq_eq] at e
      split at e
      · rename_i v h1 nx1 hc
        split at e
        · rename_i ps2 as2 bd2 sl2 N2 pend hp
          rw [T.seq_eq] at e
          cases e
          obtain ⟨hle, hcall⟩ := hC.fn _ _ _ _ _ _ _ hc
          refine ⟨by omega, fun F n B ρ a w Q hF hD hro hR hS hf hM hQ => wpIn_rangeFunc fun fn hfn => ?_⟩
          obtain ⟨cv, hgv, hcaps⟩ := evX_rel hS hg
          have hgv' : a.eval g = .func (.func f) #[] cv := hgv
          -- two blocks are laid
          have s1 : Stp ρ ρ h.get h.get w (w.alloc (.deferred (some []))) nx nx := Stp.push hR (.deferred (some [])) rfl rfl rfl rfl
          have hfx : ρ nx = none := hf nx (Nat.le_refl _) (by omega)
          obtain ⟨w2, hw2⟩ : ∃ x, x = (w.alloc (.deferred (some []))).alloc (.loop { state := .ready, pending := none, fn, tmps := a.tmps, params := ps, assign := asg, body := bd, defers := w.heap.size }) := ⟨_, rfl⟩
          have s2 : Stp ρ (ρ.set nx ((w.alloc (.deferred (some []))).heap.size, 0)) h.get (h.put nx (.lp ps asg bd sl N none)).get (w.alloc (.deferred (some []))) w2 nx (nx + 1) :=
            Stp.new_ s1.rel hfx (.loop { state := .ready, pending := none, fn, tmps := a.tmps, params := ps, assign := asg, body := bd, defers := w.heap.size }) (.lp ps asg bd sl N none) 0
              ⟨_, rfl, rfl, rfl, rfl, rfl, rfl, hS.size, fun t v e => ⟨(hS.get t v e).1, (hS.get t v e).2.mono (Map.set_le hfx)⟩⟩ w2 (by rw [hw2]; rfl) (by rw [hw2]; rfl) (by rw [hw2]; rfl) (by rw [hw2]; rfl)
          have hsz : (w.alloc (.deferred (some []))).heap.size = w.heap.size + 1 := World.size_alloc ..
          have s12 := s1.trans s2
          refine ⟨w.heap.size + 1, [{ target := .collected w.heap.size, args := #[] }], w2, { target := .fn (.func f) cv, args := #[.func (.yield (w.heap.size + 1)) #[] #[]] }, w2, f, (.func (.yield (w.heap.size + 1)) #[] #[] :: cv.toList).toArray, w2, by rw [hro, hw2]; exact run_enterLoop_outer .., ?_, fun f' _ => hF f', ?_, fun hd => by simp [hD] at hd, ?_⟩
          · have hcv : ∀ v, a.eval (.const v) = v := fun _ => rfl
            simp [resolve, rangeCall, hgv', hcv, Deferred.ofValue]
          · have hexec : ∀ w', (invoke (.fn (.func f) cv) #[.func (.yield (w.heap.size + 1)) #[] #[]]).run P w' = (callFunc f (Value.func (.yield (w.heap.size + 1)) #[] #[] :: cv.toList).toArray).run P w' := fun w' => by
              have : (Value.func (.yield (w.heap.size + 1)) #[] #[] :: cv.toList).toArray = #[Value.func (.yield (w.heap.size + 1)) #[] #[]] ++ cv := by apply Array.ext'; simp
              rw [this]; rfl
            show (invoke (.fn (.func f) cv) #[.func (.yield (w.heap.size + 1)) #[] #[]]).run P w2 = _
            rw [hexec]
            unfold fnOk at hok
            cases hfn : P.funcs[f]? with
            | none => simp [hfn] at hok
            | some fn' =>
              simp only [hfn, Bool.and_eq_true, Bool.not_eq_true'] at hok
              have hb1 : fn'.body.isNone = false := by cases hbb : fn'.body <;> simp [hbb] at hok ⊢
              simp only [callFunc, Sem.run_bind, Sem.run_pure, Result.andThen_ok, run_program, hfn, hok.2, Bool.false_eq_true, if_false, hb1]
          · have hm : VsRel (ρ.set nx ((w.alloc (.deferred (some []))).heap.size, 0)) (.cons (.yl nx) caps) (.func (.yield (w.heap.size + 1)) #[] #[] :: cv.toList) :=
              ⟨_, _, rfl, ⟨_, 0, set_self .., by rw [hsz]⟩, hcaps.mono' (Map.set_le hfx)⟩
            have M2 : Mk B (h.put nx (.lp ps asg bd sl N none)).get (ρ.set nx ((w.alloc (.deferred (some []))).heap.size, 0)) w2 ([{ target := .collected w.heap.size, args := #[] }] ++ a.defers) := by
              have M1 := hM.stp s12
              refine ⟨M1.low, List.pairwise_cons.2 ⟨fun d hd => ?_, M1.dif⟩, fun d hd => ?_⟩
              · obtain ⟨r, k1, k2, k3, k4⟩ := hM.all d hd
                have hlt := (Array.getElem?_eq_some_iff.1 k3).1
                rw [k1]
                intro e
                cases e
                omega
              · rcases List.mem_cons.1 hd with rfl | hd
                · refine ⟨_, rfl, hM.low, ?_, fun id o C e1 e2 => ?_⟩
                  · rw [s2.keep w.heap.size (by omega) fun id o C e1 e2 => ?_]
                    · exact World.alloc_heap_new ..
                    · obtain ⟨b, C', ob, g1, g2, _⟩ := hR.has id o e1
                      rw [g1] at e2; cases e2
                      have := (Array.getElem?_eq_some_iff.1 g2).1; omega
                  · rcases s2.new id o _ C e1 e2 with h5 | ⟨j, o', D, h5, h6⟩
                    · omega
                    · obtain ⟨b, C', ob, g1, g2, _⟩ := hR.has j o' h5
                      rw [g1] at h6; cases h6
                      have := (Array.getElem?_eq_some_iff.1 g2).1; omega
                · exact M1.all d hd
            refine CallsIn.mono (hcall F (n - 1) _ _ _ hF hD hro s12.rel hm (s12.fr hf)) ?_
            rintro e w3 ⟨ρ3, u, hs3, rfl, _⟩
            obtain ⟨b, C, ob, g1, g2, r, rfl, q1, q2, q3, q4, q5, q6, q7⟩ := hs3.rel.has nx _ hp
            have g3 := hs3.le _ _ (set_self ρ nx ((w.alloc (.deferred (some []))).heap.size, 0))
            rw [g1] at g3
            cases g3
            rw [hsz] at g2 g1
            have s4 : Stp ρ3 ρ3 h1.get (h1.del nx).get w3 (w3.putObj (w.heap.size + 1) (.loop { r with state := .exhausted })) nx' nx' := Stp.del hs3.rel hp g1 _ rfl rfl rfl World.putObj_size fun k hk => World.putObj_heap_other hk
            have hS4 := hs3.trans s4
            have S := s12.trans hS4
            refine ⟨r.pending, _, run_endLoop g2 (by rw [q4]; cases pend <;> simp), ?_⟩
            have hfin := fun (a' : Act) (ha : a' = { a with defers := [{ target := .collected w.heap.size, args := #[] }] ++ a.defers }) => hQ ρ3 a' _ S (by subst ha; exact { size := hS.size, get := fun t v e => (hS.mono S.le).get t v e }) (by subst ha; exact M2.stp hS4)
            rw [q5] at hfin
            rw [q5]
            cases pend with
            | none => exact hfin _ rfl
            | some j =>
              cases j with
              | none => exact wpIn_ret (hfin _ rfl)
              | some j => exact wpIn_exit (hfin _ rfl)
        · cases e
      · cases e
  · cases e
theorem evCode_run {X call : Caller} (hX : ExtOk P X) (hC : CallOk P call) {D : Drawer} (hDr : DrawOk P N D) (q : Bool) : ∀ n, CodeOk P N q (evCode P X call D N q n)
  | 0 => fun c sl h nx x sl' h' nx' e => by cases e
  | m + 1 => fun c sl h nx x sl' h' nx' e => by
    have ih : ∀ j, j < m + 1 → CodeOk P N q (evCode P X call D N q j) := fun j hj => evCode_run hX hC hDr q j
    have ihm := ih m (Nat.lt_succ_self _)
    rw [evCode_succ] at e
    cases c with
    | skip => cases e; exact ⟨Nat.le_refl _, fun F n B ρ a w Q hF hD hro hR hS hf hM hQ => wpIn_skip (hQ ρ a w (Stp.refl hR) hS hM)⟩
    | label l => cases e; exact ⟨Nat.le_refl _, fun F n B ρ a w Q hF hD hro hR hS hf hM hQ => wpIn_label (hQ ρ a w (Stp.refl hR) hS hM)⟩
    | exit l => cases e; exact ⟨Nat.le_refl _, fun F n B ρ a w Q hF hD hro hR hS hf hM hQ => wpIn_exit (hQ ρ a w (Stp.refl hR) hS hM)⟩
    | ret => cases e; exact ⟨Nat.le_refl _, fun F n B ρ a w Q hF hD hro hR hS hf hM hQ => wpIn_ret (hQ ρ a w (Stp.refl hR) hS hM)⟩
    | seq c1 c2 =>
      simp only [evCode1, evSeq] at e
      split at e
      · rename_i sl1 h1 nx1 e1
        obtain ⟨l1, r1⟩ := ihm _ _ _ _ _ _ _ _ e1
        obtain ⟨l2, r2⟩ := ihm _ _ _ _ _ _ _ _ e
        refine ⟨Nat.le_trans l1 l2, fun F n B ρ a w Q hF hD hro hR hS hf hM hQ => wpIn_seq (r1 F n B ρ a w _ hF hD hro hR hS (hf.left l2) hM fun ρ1 a1 w1 hs1 hS1 hd1 => ?_)⟩
        exact r2 F n B ρ1 a1 w1 Q hF hD hro hs1.rel hS1 (hs1.fr hf) hd1 fun ρ2 a2 w2 hs2 hS2 hd2 => hQ ρ2 a2 w2 (hs1.trans hs2) hS2 hd2
      · rename_i hne
        obtain ⟨l1, r1⟩ := ihm _ _ _ _ _ _ _ _ e
        refine ⟨l1, fun F n B ρ a w Q hF hD hro hR hS hf hM hQ => wpIn_seq (r1 F n B ρ a w _ hF hD hro hR hS hf hM fun ρ1 a1 w1 hs1 hS1 hd1 => ?_)⟩
        have := hQ ρ1 a1 w1 hs1 hS1 hd1
        cases x with
        | nrm => exact absurd e (hne _ _ _)
        | ret => exact this
        | ex id => exact this
    | cond c x1 y1 =>
      simp only [evCode1, evCond] at e
      split at e
      · rename_i hc
        obtain ⟨l1, r1⟩ := ihm _ _ _ _ _ _ _ _ e
        exact ⟨l1, fun F n B ρ a w Q hF hD hro hR hS hf hM hQ => wpIn_cond_true (evX_rel hS hc) (r1 F n B ρ a w Q hF hD hro hR hS hf hM hQ)⟩
      · rename_i hc
        obtain ⟨l1, r1⟩ := ihm _ _ _ _ _ _ _ _ e
        exact ⟨l1, fun F n B ρ a w Q hF hD hro hR hS hf hM hQ => wpIn_cond_false (evX_rel hS hc) (r1 F n B ρ a w Q hF hD hro hR hS hf hM hQ)⟩
      · cases e
    | block id b =>
      simp only [evCode1, evBlock] at e
      split at e
      · rename_i j sl1 h1 nx1 e1
        obtain ⟨l1, r1⟩ := ihm _ _ _ _ _ _ _ _ e1
        by_cases hj : j = id
        · rw [beq_t hj, cond_true] at e; cases e
          refine ⟨l1, fun F n B ρ a w Q hF hD hro hR hS hf hM hQ => wpIn_block (r1 F n B ρ a w _ hF hD hro hR hS hf hM fun ρ1 a1 w1 hs1 hS1 hd1 => ?_)⟩
          simp only [XT.exit, Exit.inBlock, hj, if_true]
          exact hQ ρ1 a1 w1 hs1 hS1 hd1
        · rw [beq_f hj, cond_false] at e; cases e
          refine ⟨l1, fun F n B ρ a w Q hF hD hro hR hS hf hM hQ => wpIn_block (r1 F n B ρ a w _ hF hD hro hR hS hf hM fun ρ1 a1 w1 hs1 hS1 hd1 => ?_)⟩
          simp only [XT.exit, Exit.inBlock, hj, if_false]
          exact hQ ρ1 a1 w1 hs1 hS1 hd1
      · rename_i hne
        obtain ⟨l1, r1⟩ := ihm _ _ _ _ _ _ _ _ e
        refine ⟨l1, fun F n B ρ a w Q hF hD hro hR hS hf hM hQ => wpIn_block (r1 F n B ρ a w _ hF hD hro hR hS hf hM fun ρ1 a1 w1 hs1 hS1 hd1 => ?_)⟩
        have := hQ ρ1 a1 w1 hs1 hS1 hd1
        cases x with
        | nrm => exact this
        | ret => exact this
        | ex j => exact absurd e (hne _ _ _ _)
    | loop b =>
      -- the rounds, by what is left
      have mono : ∀ k, k ≤ m + 1 → ∀ sl h nx, evCode P X call D N q k (.loop b) sl h nx = .ok x sl' h' nx' → nx ≤ nx' := by
        intro k
        induction k with
        | zero => intro _ sl h nx e; cases e
        | succ k ihk =>
          intro hk sl h nx e
          rw [evCode_succ] at e
          simp only [evCode1, evLoop] at e
          split at e
          · rename_i sl1 h1 nx1 e1
            exact Nat.le_trans (ih k (by omega) _ _ _ _ _ _ _ _ e1).1 (ihk (by omega) _ _ _ e)
          · exact (ih k (by omega) _ _ _ _ _ _ _ _ e).1
      refine ⟨mono (m + 1) (Nat.le_refl _) _ _ _ (by rw [evCode_succ]; exact e), fun F n B ρ a w Q hF hD hro hR hS hf hM hQ => ?_⟩
      refine wpIn_loop_g (fun k a1 w1 => k ≤ m + 1 ∧ ∃ ρ1 sl1 h1 nx1, evCode P X call D N q k (.loop b) sl1 h1 nx1 = .ok x sl' h' nx' ∧ Stp ρ ρ1 h.get h1.get w w1 nx nx1 ∧ SRel N ρ1 sl1 a1 ∧ (q = true → Mk B h1.get ρ1 w1 a1.defers)) (m + 1)
        ⟨Nat.le_refl _, ρ, sl, h, nx, by rw [evCode_succ]; exact e, Stp.refl hR, hS, hM⟩ ?_
      rintro k a1 w1 ⟨hk, ρ1, sl1, h1, nx1, ek, hs1, hS1, hd1⟩
      cases k with
      | zero => cases ek
      | succ k =>
        have hfk := hs1.fr hf
        rw [evCode_succ] at ek
        simp only [evCode1, evLoop] at ek
        split at ek
        · rename_i sl2 h2 nx2 e2
          obtain ⟨l2, r2⟩ := ih k (by omega) _ _ _ _ _ _ _ _ e2
          have l3 := mono k (by omega) _ _ _ ek
          refine r2 F n B ρ1 a1 w1 _ hF hD hro hs1.rel hS1 (hfk.left l3) hd1 fun ρ2 a2 w2 hs2 hS2 hd2 => ?_
          exact ⟨k, Nat.lt_succ_self _, by omega, ρ2, sl2, h2, nx2, ek, hs1.trans hs2, hS2, hd2⟩
        · rename_i hne
          obtain ⟨l2, r2⟩ := ih k (by omega) _ _ _ _ _ _ _ _ ek
          refine r2 F n B ρ1 a1 w1 _ hF hD hro hs1.rel hS1 hfk hd1 fun ρ2 a2 w2 hs2 hS2 hd2 => ?_
          have := hQ ρ2 a2 w2 (hs1.trans hs2) hS2 hd2
          cases x with
          | nrm => exact absurd ek (hne _ _ _)
          | ret => exact this
          | ex j => exact this
    | region id ops d =>
      simp only [evCode1, evRegion] at e
      split at e
      · rename_i sl1 h1 nx1 e1
        cases e
        cases d with
        | true =>
          rw [cond_true] at e1
          obtain ⟨l1, r1⟩ := hDr _ _ _ _ _ _ _ e1
          exact ⟨l1, fun F n B ρ a w Q hF hD hro hR hS hf hM hQ => r1 F n id ρ a w Q hF hD hR hS hf fun ρ' a' w' hs hS' hd => hQ ρ' a' w' hs hS' fun hq => by rw [hd]; exact (hM hq).stp hs⟩
        | false =>
          rw [cond_false] at e1
          exact ⟨evOps_le e1, fun F n B ρ a w Q hF hD hro hR hS hf hM hQ => wpIn_region_list (evOps_run hF hD hX hC e1 hR hS hf fun ρ' a' w' hs hS' hd => hQ ρ' a' w' hs hS' fun hq => by rw [hd]; exact (hM hq).stp hs)⟩
      · cases e
    | rangeFunc f ps s b =>
      simp only [evCode1] at e
      cases q with
      | false => cases e
      | true =>
        rw [cond_true] at e
        obtain ⟨l1, r1⟩ := rangeF_run hC e
        exact ⟨l1, fun F n B ρ a w Q hF hD hro hR hS hf hM hQ => r1 F n B ρ a w Q hF hD (hro rfl) hR hS hf (hM rfl) fun ρ' a' w' hs hS' hd => hQ ρ' a' w' hs hS' fun _ => hd⟩
    | scope b => cases e
    | goto l => cases e
    | refuse s => cases e
/-- What a function hands back. -/
noncomputable def evRes (P : Program) (sl : T AV) (h : T AO) : List ResultVar → Option AVs
  | [] => some .nil
  | .tmp t :: l => match sl.get t with
    | some v => (match evRes P sl h l with | some m => some (.cons v m) | none => none)
    | none => none
  | .cell t ty :: l => match sl.get t with
    | some x => match evLoad P h ty x with
      | some v => (match evRes P sl h l with | some m => some (.cons v m) | none => none)
      | none => none
    | none => none
noncomputable def evRet (l : AVs) : AV := match l with
  | .cons v .nil => v
  | l => .tup l
theorem evRes_run {ρ : Map} {h : T AO} {w : World} {a : Act} {sl : T AV} (hR : Rel ρ h.get w) (hS : SRel N ρ sl a) : ∀ {l : List ResultVar} {m : AVs}, evRes P sl h l = some m →
    ∃ vs, (l.mapM (m := Sem) fun | .tmp t => (pure (a.tmps.getD t undef) : Sem Value) | .cell c t => do loadVar t (← asAddr (a.tmps.getD c undef))).run P w = .ok vs w ∧ VsRel ρ m vs
  | [], m, e => by simp only [evRes] at e; cases e; exact ⟨[], by simp, rfl⟩
  | .tmp t :: l, m, e => by
    simp only [evRes] at e
    split at e
    · rename_i v hv
      split at e <;> cases e
      rename_i m' hm'
      obtain ⟨vs, h1, h2⟩ := evRes_run hR hS hm'
      exact ⟨_ :: vs, by simp only [List.mapM_cons, Sem.run_bind, Sem.run_pure, Result.andThen_ok, h1], _, _, rfl, (hS.get _ _ hv).2, h2⟩
    · cases e
  | .cell t ty :: l, m, e => by
    simp only [evRes] at e
    split at e
    · rename_i x hx
      split at e
      · rename_i v hv
        split at e <;> cases e
        rename_i m' hm'
        obtain ⟨vs, h1, h2⟩ := evRes_run hR hS hm'
        have hxr := (hS.get _ _ hx).2
        obtain ⟨u, k1, k2⟩ := evLoad_run (P := P) hR hxr hv
        have hp : ∃ ad, a.tmps.getD t undef = .pointer (some ad) ∧ (loadVar ty ad).run P w = .ok u w := by
          unfold evLoad at hv
          split at hv
          · obtain ⟨b, C, _, hb⟩ := hxr
            rw [hb] at k1
            exact ⟨_, hb, by simpa [Instr.loadAt, Instr.sureAddr] using k1⟩
          · cases hv
        obtain ⟨ad, hb, k3⟩ := hp
        have ha : (asAddr (.pointer (some ad))).run P w = .ok ad w := rfl
        exact ⟨u :: vs, by simp only [List.mapM_cons, Sem.run_bind, Sem.run_pure, Result.andThen_ok, hb, ha, k3, h1], u, vs, rfl, k2, h2⟩
      · cases e
    · cases e
theorem results_run {ρ : Map} {h : T AO} {w : World} {a : Act} {sl : T AV} (hR : Rel ρ h.get w) (hS : SRel N ρ sl a) {fn : Func} {m : AVs} (e : evRes P sl h fn.results.toList = some m) :
    ∃ u, (results fn a.tmps).run P w = .ok u w ∧ VRel ρ (evRet m) u := by
  obtain ⟨vs, h1, h2⟩ := evRes_run (P := P) hR hS e
  have hl := h2.len
  have hrun : (fn.results.mapM (m := Sem) fun | .tmp t => (pure (a.tmps.getD t undef) : Sem Value) | .cell c t => do loadVar t (← asAddr (a.tmps.getD c undef))).run P w = .ok vs.toArray w := by
    rw [Array.mapM_eq_mapM_toList, Sem.run_map, h1]; rfl
  have key : (results fn a.tmps).run P w = .ok (if h : vs.toArray.size = 1 then vs.toArray[0] else .tuple vs.toArray) w := by
    unfold results
    rw [Sem.run_bind]
    exact congrArg (fun r => Result.andThen r fun (vs : Array Value) w' => (Pure.pure (if h : vs.size = 1 then vs[0] else Value.tuple vs) : Sem Value).run P w') hrun
  rw [key]
  clear key hrun h1 e
  cases m with
  | nil =>
    simp only [VsRel] at h2; subst h2
    exact ⟨_, rfl, _, rfl, rfl⟩
  | cons v m =>
    obtain ⟨u, r, rfl, hv, hr⟩ := h2
    cases m with
    | nil =>
      simp only [VsRel] at hr; subst hr
      exact ⟨u, by simp, hv⟩
    | cons x l =>
      obtain ⟨y, q, rfl, hy, hq⟩ := hr
      exact ⟨.tuple (u :: y :: q).toArray, by simp, _, rfl, u, _, rfl, hv, y, q, rfl, hy, hq⟩
/-- Yield's arguments, in the round's slots. -/
noncomputable def putPs : List Nat → AVs → T AV → T AV
  | p :: ps, .cons v l, t => (t.put p v).seq fun t => putPs ps l t
  | _, _, t => t
/-- A round of a range over a function. -/
noncomputable def evRound (P : Program) (X call : Caller) (D : Caller → Nat → Drawer) (n : Nat) (id : Nat) (l : AVs) (h : T AO) (nx : Nat) : R :=
  match h.get id with
  | some (.lp ps asg bd sl N none) => bif Nat.beq ps.size l.len && ps.toList.all (fun t => Nat.ble (Nat.succ t) N) then
      (h.del id).seq fun h0 => match evCode P X call (D call N) N false n asg (putPs ps.toList l sl) h0 nx with
      | .ok .nrm sl1 h1 nx1 => match evCode P X call (D call N) N false n bd sl1 h1 nx1 with
        | .ok x _ h2 nx2 => (h2.put id (.lp ps asg bd sl N (pendOf x))).seq fun h3 => .ok (.b (pendOf x).isNone) h3 nx2
        | .bad => .bad
      | _ => .bad
    else .bad
  | _ => .bad
/-- A call. -/
noncomputable def evFn (P : Program) (X call : Caller) (D : Caller → Nat → Drawer) (n : Nat) (f : FuncId) (l : AVs) (h : T AO) (nx : Nat) : R :=
  match P.funcs[f]? with
  | none => .bad
  | some fn => match fn.body with
    | none => .bad
    | some c => bif Nat.ble l.len fn.ntmps then
        match evCode P X call (D call fn.ntmps) fn.ntmps true n c (ofA l 0 .nil) h nx with
        | .ok x sl h nx => match x with
          | .ex _ => .bad
          | _ => match evRes P sl h fn.results.toList with
            | some m => .ok (evRet m) h nx
            | none => .bad
        | .bad => .bad
      else .bad
noncomputable def evCall1 (P : Program) (X call : Caller) (D : Caller → Nat → Drawer) (n : Nat) (t : Tgt) (l : AVs) (h : T AO) (nx : Nat) : R :=
  match t with
  | .fn f => evFn P X call D n f l h nx
  | .yl id => evRound P X call D n id l h nx
/-- K: calls that are known already. -/
noncomputable def evCall (P : Program) (X K : Caller) (D : Caller → Nat → Drawer) (n : Nat) : Caller :=
  Nat.rec (motive := fun _ => Caller) (fun _ _ _ _ => .bad) (fun n call t l h nx => match K t l h nx with | .ok v h nx => .ok v h nx | .bad => evCall1 P X call D n t l h nx) n
theorem putPs_rel {ρ : Map} {ds : List Deferred} : ∀ {ps : List Nat} {l : AVs} {m : List Value} {tmps : Array Value} {sl : T AV}, SRel N ρ sl { tmps := tmps, defers := ds } → VsRel ρ l m → ps.all (fun t => Nat.ble (Nat.succ t) N) = true →
    SRel N ρ (putPs ps l sl) { tmps := (ps.zip m).foldl (fun tmps (x : Nat × Value) => tmps.setIfInBounds x.1 x.2) tmps, defers := ds }
  | [], l, m, tmps, sl, hS, hm, hp => by cases l <;> exact hS
  | p :: ps, .nil, m, tmps, sl, hS, hm, hp => by simp only [VsRel] at hm; subst hm; exact hS
  | p :: ps, .cons v l, m, tmps, sl, hS, hm, hp => by
    obtain ⟨u, r, rfl, hv, hr⟩ := hm
    simp only [List.all_cons, Bool.and_eq_true, Nat.ble_eq] at hp
    simp only [putPs, T.seq_eq, List.zip_cons_cons, List.foldl_cons]
    exact putPs_rel (hS.put hp.1 hv) hr hp.2
theorem start_rel {ρ : Map} {l : AVs} {m : List Value} (hm : VsRel ρ l m) {n : Nat} (hn : l.len ≤ n) : SRel n ρ (ofA l 0 .nil) { tmps := m.toArray ++ Array.replicate (n - m.toArray.size) undef, defers := [] } := by
  have hl := hm.len
  refine ⟨by simp; omega, fun t v e => ?_⟩
  rw [ofA_get, T.get_nil] at e
  split at e
  · rename_i ht
    obtain ⟨u, hu, hv⟩ := hm.at e
    refine ⟨by omega, ?_⟩
    have : (m.toArray ++ Array.replicate (n - m.toArray.size) undef).getD t undef = u := by
      rw [Array.getD_eq_getD_getElem?, Array.getElem?_append, if_pos (by simp; omega)]
      simp at hu; simp [hu]
    rw [this]; exact hv
  · cases e
theorem evFn_run {X call : Caller} (hX : ExtOk P X) (hC : CallOk P call) (D : Caller → Nat → Drawer) (hDr : ∀ call N, CallOk P call → DrawOk P N (D call N)) {n : Nat} {f : FuncId} {l : AVs} {h h' : T AO} {nx nx' : Nat} {v : AV} (e' : evFn P X call D n f l h nx = .ok v h' nx') :
    nx ≤ nx' ∧ ∀ (F : Fence) (n : Nat) ρ w m, (∀ f, F.fn f) → Calm F → F.round = none → Rel ρ h.get w → VsRel ρ l m → Fr ρ nx nx' →
      CallsIn F n P f m.toArray w fun e w' => ∃ ρ' u, Stp ρ ρ' h.get h'.get w w' nx nx' ∧ e = .returned u ∧ VRel ρ' v u := by
  unfold evFn at e'
  split at e'
  · cases e'
  · rename_i fn hfn
    split at e'
    · cases e'
    · rename_i c hc
      obtain ⟨hlen, e⟩ := bif_ok e'
      rw [Nat.ble_eq] at hlen
      split at e
      · rename_i x sl1 h1 nx1 e1
        obtain ⟨l1, r1⟩ := evCode_run hX hC (hDr _ fn.ntmps hC) true n _ _ _ _ _ _ _ _ e1
        have fin : ∀ y, (match y with | .ex _ => R.bad | _ => (match evRes P sl1 h1 fn.results.toList with | some m => R.ok (evRet m) h1 nx1 | none => .bad)) = .ok v h' nx' → h1 = h' ∧ nx1 = nx' ∧ (∃ m, evRes P sl1 h1 fn.results.toList = some m ∧ evRet m = v) ∧ (y = XT.nrm ∨ y = .ret) := by
          intro y ey
          cases y with
          | ex _ => cases ey
          | nrm =>
            simp only at ey
            split at ey <;> cases ey
            rename_i m hm
            exact ⟨rfl, rfl, ⟨m, hm, rfl⟩, .inl rfl⟩
          | ret =>
            simp only at ey
            split at ey <;> cases ey
            rename_i m hm
            exact ⟨rfl, rfl, ⟨m, hm, rfl⟩, .inr rfl⟩
        obtain ⟨rfl, rfl, ⟨m, hm, rfl⟩, hx⟩ := fin x e
        refine ⟨l1, fun F k ρ w mm hF hD hro hR hmm hf => callsIn_of_wp_marks hfn hc (hF f) ?_ hro⟩
        refine r1 F k w.heap.size ρ _ w _ hF hD (fun _ => hro) hR (start_rel hmm hlen) hf (fun _ => Mk.nil (Nat.le_refl _)) fun ρ' a' w' hs hS hd => ?_
        have hl : LeavesInM F k P fn a'.tmps (fun e w' => ∃ ρ' u, Stp ρ ρ' h.get h1.get w w' nx nx1 ∧ e = .returned u ∧ VRel ρ' (evRet m) u) a'.defers .returning w' :=
          leaves_marks (Nat.le_refl _) (fun w2 hs2 => by
            obtain ⟨u, hu, hv⟩ := results_run (P := P) hs2.rel hS hm
            exact ⟨u, hu, ρ', u, hs2, rfl, hv⟩) a'.defers w' hs (hd rfl)
        rcases hx with rfl | rfl
        · exact hl
        · exact hl
      · cases e
theorem evRound_run {X call : Caller} (hX : ExtOk P X) (hC : CallOk P call) (D : Caller → Nat → Drawer) (hDr : ∀ call N, CallOk P call → DrawOk P N (D call N)) {n id : Nat} {l : AVs} {h h' : T AO} {nx nx' : Nat} {v : AV} (e : evRound P X call D n id l h nx = .ok v h' nx') :
    nx ≤ nx' ∧ ∀ (F : Fence) (n : Nat) ρ w m, (∀ f, F.fn f) → Calm F → Rel ρ h.get w → VsRel ρ l m → Fr ρ nx nx' → ∀ b C, ρ id = some (b, C) →
      ∃ f tmps asg bd, (Instr.yield b m.toArray).run P w = .ok (.round b f tmps asg bd) w ∧ RoundIn F n P b f tmps asg bd w fun e w' => ∃ ρ' u, Stp ρ ρ' h.get h'.get w w' nx nx' ∧ e = .returned u ∧ VRel ρ' v u := by
  unfold evRound at e
  split at e
  · rename_i ps asg bd sl N hid
    obtain ⟨hg, e2⟩ := bif_ok e
    clear e
    rw [Bool.and_eq_true, Nat.beq_eq] at hg
    obtain ⟨hg1, hg2⟩ := hg
    rw [T.seq_eq] at e2
    split at e2
    · rename_i sl1 h1 nx1 ea
      split at e2
      · rename_i x sl2 h2 nx2 eb
        rw [T.seq_eq] at e2
        cases e2
        obtain ⟨l1, r1⟩ := evCode_run hX hC (hDr _ N hC) false n _ _ _ _ _ _ _ _ ea
        obtain ⟨l2, r2⟩ := evCode_run hX hC (hDr _ N hC) false n _ _ _ _ _ _ _ _ eb
        refine ⟨Nat.le_trans l1 l2, fun F k ρ w m hF hD hR hm hf b C hb => ?_⟩
        obtain ⟨b', C', ob, g1, g2, r, rfl, q1, q2, q3, q4, q5, q6, q7⟩ := hR.has id _ hid
        rw [hb] at g1; cases g1
        have hlen := hm.len
        have hblt := (Array.getElem?_eq_some_iff.1 g2).1
        refine ⟨r.fn, _, r.assign, r.body, run_yield g2 (by rw [q1]; simp; omega), roundIn_of_wpIn (hF _) ?_⟩
        have hS0 : SRel N ρ sl { tmps := r.tmps, defers := [] } := ⟨q6, q7⟩
        have hS1 := putPs_rel hS0 hm hg2
        have htm : (r.params.zip m.toArray).foldl (fun tmps (t, a) => tmps.setIfInBounds t a) r.tmps = (ps.toList.zip m).foldl (fun tmps (x : Nat × Value) => tmps.setIfInBounds x.1 x.2) r.tmps := by
          rw [q1, ← Array.foldl_toList, Array.toList_zip]
        have s0 : Stp ρ ρ h.get (h.del id).get w w nx nx := Stp.del hR hid hb w rfl rfl rfl rfl fun _ _ => rfl
        have hn0 : ∀ j o C', (h.del id).get j = some o → ρ j ≠ some (b, C') := fun j o C' e1 e2 => by
          rw [T.get_del] at e1
          split at e1
          · cases e1
          · rename_i hj
            exact hj (hR.inj j id o _ b C' C e1 hid e2 hb)
        rw [q2, q3]
        refine r1 (F.inRound b) k 0 ρ _ w _ hF hD (fun h => by cases h) s0.rel (by rw [htm]; exact hS1) (hf.left l2) (fun h => by cases h) fun ρ1 a1 w1 s1 S1 _ => ?_
        have s01 := s0.trans s1
        have hn1 := s1.away hblt hn0
        have k1 : w1.heap[b]? = some (.loop r) := by rw [s1.keep b hblt hn0]; exact g2
        have s02 : Stp ρ ρ1 h.get h1.get w (w1.putObj b (.loop { r with state := .busy })) nx nx1 := s01.poke (.inr ⟨id, _, C, hid, hb⟩) hn1 rfl rfl rfl World.putObj_size fun k hk => World.putObj_heap_other hk
        have hb1lt := (Array.getElem?_eq_some_iff.1 k1).1
        refine ⟨_, run_beginRound k1 (by rw [q4]; rfl), ?_⟩
        refine r2 (F.inRound b) k 0 ρ1 a1 _ _ hF hD (fun h => by cases h) s02.rel S1 (s01.fr hf) (fun h => by cases h) fun ρ2 a2 w3 s2 S2 _ => ?_
        have s03 := s02.trans s2
        have hb2lt : b < (w1.putObj b (.loop { r with state := .busy })).heap.size := by rw [World.putObj_size]; exact hb1lt
        have hn2 := s2.away hb2lt hn1
        have k2 : w3.heap[b]? = some (.loop { r with state := .busy }) := by
          rw [s2.keep b hb2lt hn1]
          simp [World.putObj, hb1lt]
        have hb3lt := (Array.getElem?_eq_some_iff.1 k2).1
        have fin : ∀ (p : Option (Option Nat)), (Instr.endRound b (p.map jmp)).run P w3 = .ok (.bool p.isNone) (w3.putObj b (.loop { r with state := if (p.map jmp).isNone then .ready else .done, pending := p.map jmp })) ∧
            Stp ρ ρ2 h.get (h2.put id (.lp ps asg bd sl N p)).get w (w3.putObj b (.loop { r with state := if (p.map jmp).isNone then .ready else .done, pending := p.map jmp })) nx nx' := fun p => by
          refine ⟨by rw [run_endRound _ k2]; cases p <;> rfl, Stp.back (o := .loop { r with state := if (p.map jmp).isNone then .ready else .done, pending := p.map jmp }) s03 hid hb hn2 ⟨_, rfl, q1, q2, q3, by cases p <;> rfl, rfl, q6, fun t v e => ⟨(q7 t v e).1, (q7 t v e).2.mono s03.le⟩⟩ rfl rfl rfl World.putObj_size (by simp [World.putObj, hb3lt]) fun k hk => World.putObj_heap_other hk⟩
        cases x with
        | nrm => exact ⟨_, _, (fin none).1, ρ2, _, (fin none).2, rfl, rfl⟩
        | ret => exact ⟨_, _, (fin (some none)).1, ρ2, _, (fin (some none)).2, rfl, rfl⟩
        | ex j => exact ⟨_, _, (fin (some (some j))).1, ρ2, _, (fin (some (some j))).2, rfl, rfl⟩
      · cases e2
    · cases e2
  · cases e
theorem evCall_run {X K : Caller} (hX : ExtOk P X) (hK : CallOk P K) (D : Caller → Nat → Drawer) (hDr : ∀ call N, CallOk P call → DrawOk P N (D call N)) : ∀ n, CallOk P (evCall P X K D n)
  | 0 => by constructor <;> (intro f l h nx v h' nx' e; cases e)
  | n + 1 => by
    have key : ∀ {t l h nx v h' nx'}, evCall P X K D (n + 1) t l h nx = .ok v h' nx' → K t l h nx = .ok v h' nx' ∨ evCall1 P X (evCall P X K D n) D n t l h nx = .ok v h' nx' := by
      intro t l h nx v h' nx' e
      have e' : (match K t l h nx with | .ok v h nx => R.ok v h nx | .bad => evCall1 P X (evCall P X K D n) D n t l h nx) = .ok v h' nx' := e
      split at e'
      · rename_i hk; exact .inl (hk.trans e')
      · exact .inr e'
    constructor
    · intro f l h nx v h' nx' e
      rcases key e with e | e
      · exact hK.fn _ _ _ _ _ _ _ e
      · exact evFn_run hX (evCall_run hX hK D hDr n) D hDr (n := n) e
    · intro id l h nx v h' nx' e
      rcases key e with e | e
      · exact hK.yl _ _ _ _ _ _ _ e
      · exact evRound_run hX (evCall_run hX hK D hDr n) D hDr (n := n) e
theorem known_none : CallOk P (fun _ _ _ _ => .bad) := by constructor <;> (intro f l h nx v h' nx' e; cases e)
end Go.Proofs.YteogphbdpjnjoaaGreat
namespace Go.Proofs.YteogphbdpjnjoaaGreat
open Go.RowKit
variable {P : Program} {N : Nat}

/-- 0: it reads slots alone (and may make a block); 1: a load; 2: all else. -/
def kindOf : Op → Nat
  | .load _ _ => 1
  | .lookup _ _ _ _ => 1
  | .move _ => 0
  | .assign _ => 0
  | .pick _ _ _ => 0
  | .alloc _ => 0
  | .box _ _ => 0
  | .build _ _ => 0
  | .buildSlice _ _ _ => 0
  | .nilCheck _ => 0
  | .binOp _ _ _ _ _ => 0
  | .unOp _ _ _ => 0
  | .convert _ _ _ => 0
  | .makeInterface _ _ => 0
  | .makeFunc _ _ _ => 0
  | .makeSlice _ _ _ => 0
  | .makeMap _ _ => 0
  | .slice _ _ _ _ _ => 0
  | .fieldAddr _ _ _ => 0
  | .field _ _ _ => 0
  | .indexAddr _ _ _ => 0
  | .index _ _ _ => 0
  | .extract _ _ => 0
  | .typeAssert _ _ _ _ => 0
  | .call c => match c.callee with
    | .builtin .len => 1
    | .builtin .cap => 0
    | .builtin .min => 0
    | .builtin .max => 0
    | _ => 2
  | _ => 2
/-- One memory over another one: what was H is H' now, all else as in G. -/
def Heap.over (H H' G : Heap) : Heap := fun id => match H' id with
  | some o => some o
  | none => match H id with
    | some _ => none
    | none => G id
def Heap.le (H G : Heap) : Prop := ∀ id o, H id = some o → G id = some o
theorem Rel.sub {ρ : Map} {H G : Heap} {w : World} (h : Rel ρ G w) (k : Heap.le H G) : Rel ρ H w :=
  ⟨fun id o e => h.has id o (k id o e), fun i j o o' b C D e1 e2 => h.inj i j o o' b C D (k i o e1) (k j o' e2)⟩
/-- A step of a part of memory is a step of the whole. -/
theorem Stp.over {ρ ρ' : Map} {H H' G : Heap} {w w' : World} {c c' : Nat} (hG : Rel ρ G w) (hle : Heap.le H G) (hs : Stp ρ ρ' H H' w w' c c') (hfr : Fr ρ c c') : Rel ρ' (Heap.over H H' G) w' ∧ (∀ b, b < w.heap.size → (∀ id o C, G id = some o → ρ id ≠ some (b, C)) → w'.heap[b]? = w.heap[b]?) ∧
      (∀ id o b C, Heap.over H H' G id = some o → ρ' id = some (b, C) → w.heap.size ≤ b ∨ ∃ j o' D, G j = some o' ∧ ρ j = some (b, D)) := by
  have lt : ∀ id o b C, G id = some o → ρ id = some (b, C) → b < w.heap.size := by
    intro id o b C e1 e2
    obtain ⟨b', C', ob, h1, h2, _⟩ := hG.has id o e1
    rw [h1] at e2; cases e2
    exact (Array.getElem?_eq_some_iff.1 h2).1
  -- what is of G alone
  have ga : ∀ id o, Heap.over H H' G id = some o → (H' id = some o) ∨ (H' id = none ∧ H id = none ∧ G id = some o) := by
    intro id o e
    unfold Heap.over at e
    cases h1 : H' id with
    | some x => simp only [h1] at e; exact .inl e
    | none =>
      simp only [h1] at e
      cases h2 : H id with
      | some y => simp [h2] at e
      | none => simp only [h2] at e; exact .inr ⟨rfl, rfl, e⟩
  have old : ∀ id o, H' id = none → H id = none → G id = some o → ρ' id = ρ id := by
    intro id o h1 h2 h3
    exact hs.out id fun hc => by
      obtain ⟨b, C, ob, k1, _⟩ := hG.has id o h3
      rw [hfr id hc.1 hc.2] at k1; cases k1
  have apart : ∀ id o b C, H id = none → G id = some o → ρ id = some (b, C) → ∀ j o' D, H j = some o' → ρ j ≠ some (b, D) := by
    intro id o b C h1 h2 h3 j o' D h4 h5
    have := hG.inj id j o o' b C D h2 (hle j o' h4) h3 h5
    subst this
    rw [h1] at h4; cases h4
  have newb : ∀ id o b C, H' id = some o → ρ' id = some (b, C) → ∀ j o' D, H j = none → G j = some o' → ρ j ≠ some (b, D) := by
    intro id o b C h1 h2 j o' D h3 h4 h5
    rcases hs.new id o b C h1 h2 with h6 | ⟨k, ok, E, h6, h7⟩
    · have := lt j o' b D h4 h5; omega
    · exact apart j o' b D h3 h4 h5 k ok E h6 h7
  refine ⟨⟨?_, ?_⟩, ?_, ?_⟩
  · intro id o e
    rcases ga id o e with h1 | ⟨h1, h2, h3⟩
    · exact hs.rel.has id o h1
    · obtain ⟨b, C, ob, k1, k2, k3⟩ := hG.has id o h3
      refine ⟨b, C, ob, hs.le _ _ k1, ?_, k3.mono hs.le⟩
      rw [hs.keep b (lt id o b C h3 k1) fun j o' D h4 => apart id o b C h2 h3 k1 j o' D h4]
      exact k2
  · intro i j o o' b C D e1 e2 k1 k2
    rcases ga i o e1 with h1 | ⟨h1, h2, h3⟩ <;> rcases ga j o' e2 with g1 | ⟨g1, g2, g3⟩
    · exact hs.rel.inj i j o o' b C D h1 g1 k1 k2
    · rw [old j o' g1 g2 g3] at k2
      exact absurd k2 (newb i o b C h1 k1 j o' D g2 g3)
    · rw [old i o h1 h2 h3] at k1
      exact absurd k1 (newb j o' b D g1 k2 i o C h2 h3)
    · rw [old i o h1 h2 h3] at k1; rw [old j o' g1 g2 g3] at k2
      exact hG.inj i j o o' b C D h3 g3 k1 k2
  · intro b hb hn
    exact hs.keep b hb fun id o C e1 => hn id o C (hle id o e1)
  · intro id o b C e k
    rcases ga id o e with h1 | ⟨h1, h2, h3⟩
    · rcases hs.new id o b C h1 k with h4 | ⟨j, o', D, h4, h5⟩
      · exact .inl h4
      · exact .inr ⟨j, o', D, hle j o' h4, h5⟩
    · rw [old id o h1 h2 h3] at k
      exact .inr ⟨id, o, C, h3, k⟩
def opO (ops : Array Oper) (i : Nat) : Op := (ops.getD i default).op
def opD (ops : Array Oper) (i : Nat) : Option Nat := (ops.getD i default).dst
def knd (ops : Array Oper) (i : Nat) : Nat := kindOf (opO ops i)
def nilH : T AO := .nil
theorem nilH_none (id : Nat) : nilH.get id = none := T.get_nil id
theorem nilH_get {id : Nat} {o : AO} (e : nilH.get id = some o) : False := by rw [nilH, T.get_nil] at e; cases e
theorem nilH_put {id j : Nat} {b o : AO} (e : (nilH.put id b).get j = some o) : j = id ∧ o = b := by
  rw [T.get_put] at e
  split at e
  · cases e; exact ⟨by assumption, rfl⟩
  · exact (nilH_get e).elim
/-- What reads memory alone. -/
noncomputable def evRd (P : Program) (sl : T AV) (h : T AO) (op : Op) : Option AV :=
  match op with
  | .load t x => match evX sl x with | some p => evLoad P h t p | none => none
  | .lookup t x k ok => match evX sl x, evX sl k with | some u, some v => evLookup P h t u v ok | _, _ => none
  | .call c => match c.callee with
    | .builtin .len => match c.argTypes.toList, c.args.toList with
      | [t], [x] => match evX sl x with | some v => evLenH P h t v | none => none
      | _, _ => none
    | _ => none
  | _ => none
theorem evRd_run {ρ : Map} {sl : T AV} {a : Act} {h : T AO} {w : World} (hR : Rel ρ h.get w) (hS : SRel N ρ sl a) {o : Oper} {v : AV} (e : evRd P sl h o.op = some v) : (∀ c, o.op ≠ .defer c) ∧ ∃ u, (execOp a.eval o).run P w = .ok (.value u) w ∧ VRel ρ v u := by
  obtain ⟨dst, op, ty, pos, aft, g⟩ := o
  simp only at e
  unfold evRd at e
  split at e
  · split at e
    · rename_i t x p hx
      obtain ⟨u, k1, k2⟩ := evLoad_run hR (evX_rel hS hx) e
      exact ⟨fun c h => (by cases h), u, by simp [execOp, k1], k2⟩
    · cases e
  · split at e
    · rename_i hx hk
      obtain ⟨u, k1, k2⟩ := evLookup_run hR (evX_rel hS hx) (evX_rel hS hk) e
      exact ⟨fun c h => (by cases h), u, by simp [execOp, k1], k2⟩
    · cases e
  · rename_i c
    split at e
    · rename_i hb
      split at e
      · rename_i t x h1 h2
        split at e
        · rename_i hx
          obtain ⟨u, k2, k3⟩ := evLenH_run (P := P) (ty := ty) hR (evX_rel hS hx) e
          have h1' : c.argTypes = #[t] := Array.toList_inj.1 h1
          have h2' : c.args = #[x] := Array.toList_inj.1 h2
          refine ⟨fun c h => (by cases h), u, ?_, k3⟩
          have : (execOp a.eval ⟨dst, .call c, ty, pos, aft, g⟩).run P w = (builtin .len c.argTypes ty (c.args.map fun | .const _ => true | _ => false) (c.args.toList.map a.eval).toArray).run P w := by
            simp only [execOp, resolve, hb, Sem.run_bind, Sem.run_pure, Result.andThen_ok, invoke]
            congr 2
            apply Array.ext'; simp
          rw [this, h1', h2']
          simp [builtin, k2]
        · cases e
      · cases e
    · cases e
  · cases e
/-- What the plan has told of each operation. -/
structure Tells (P : Program) (X call : Caller) (N : Nat) (ops : Array Oper) (pre : Nat → Nat → Prop) (sl0 : T AV) (H0 : T AO) (nx0 nxF : Nat) where
  v : Nat → AV
  c : Nat → Nat
  c' : Nat → Nat
  blk : Nat → Option AO
  st : Nat → T AO
  st' : Nat → T AO
  slr : Nat → T AV
  /-- Memory when so many of the third kind are done. -/
  K : Nat → T AO
  /-- How many of the third kind stand ahead. -/
  num : Nat → Nat
  rng : ∀ i, i < ops.size → nx0 ≤ c i ∧ c i ≤ c' i ∧ c' i ≤ nxF
  dis : ∀ i j, i < ops.size → j < ops.size → i ≠ j → c' i ≤ c j ∨ c' j ≤ c i
  sl : ∀ i, i < ops.size → ∀ t x, (slr i).get t = some x → (∃ k, k < ops.size ∧ pre k i ∧ opD ops k = some t ∧ v k = x) ∨ ((∀ k, k < ops.size → opD ops k = some t → k = i ∨ pre i k) ∧ sl0.get t = some x)
  dst : ∀ i, i < ops.size → ∀ d, opD ops i = some d → d < N ∧ ∀ j, j < ops.size → opD ops j = some d → i = j
  /-- Is it done at all? -/
  wnt : Nat → Bool
  grd : ∀ i, i < ops.size → ((ops.getD i default).guard = none ∧ wnt i = true) ∨ ∃ j want t, (ops.getD i default).guard = some (j, want) ∧ j < ops.size ∧ pre j i ∧ opD ops j = some t ∧ ((∃ x, v j = .b x ∧ wnt i = (x == want)) ∨ ∃ l, v j = .tup l ∧ wnt i = false)
  uw : ∀ i, i < ops.size → wnt i = false → v i = .tup .nil ∧ blk i = none ∧ (knd ops i = 2 → st' i = st i)
  k0 : ∀ i, i < ops.size → knd ops i = 0 → wnt i = true → ∃ h1, evM P (slr i) .nil (c i) (opO ops i) = .ok (v i) h1 (c' i) ∧ ∀ x, blk i = some x → c i < c' i ∧ h1.get (c i) = some x
  k1 : ∀ i, i < ops.size → knd ops i = 1 → wnt i = true → ∀ k, (∀ j, j < ops.size → knd ops j = 2 → pre j i → num j < k) → (∀ j, j < ops.size → knd ops j = 2 → num j < k → ¬ pre i j) → (∀ j, j < k → ∃ l, l < ops.size ∧ knd ops l = 2 ∧ num l = j) →
    (evRd P (slr i) (K k) (opO ops i) = some (v i) ∨ ∃ j b, j < ops.size ∧ pre j i ∧ blk j = some b ∧ (∀ l, l < ops.size → knd ops l = 2 → pre j l → pre i l) ∧ evRd P (slr i) (nilH.put (c j) b) (opO ops i) = some (v i))
  k2 : ∀ i, i < ops.size → knd ops i = 2 → wnt i = true → evOper P X call (slr i) (st i) (c i) (opO ops i) = .ok (v i) (st' i) (c' i)
  kz : ∀ i, i < ops.size → knd ops i = 0 ∨ knd ops i = 1 ∨ knd ops i = 2
  blk0 : ∀ i, i < ops.size → knd ops i ≠ 0 → blk i = none
  kst : K 0 = H0
  kst' : ∀ i, i < ops.size → knd ops i = 2 → K (num i + 1) = st' i
  /-- They stand one behind the other. -/
  ord : ∀ i j, i < ops.size → j < ops.size → knd ops i = 2 → knd ops j = 2 → num i < num j → pre i j
  inj : ∀ i j, i < ops.size → j < ops.size → knd ops i = 2 → knd ops j = 2 → num i = num j → i = j
  full : ∀ i, i < ops.size → knd ops i = 2 → ∀ k, k < num i → ∃ j, j < ops.size ∧ knd ops j = 2 ∧ num j = k
  /-- What stands in memory ahead of one. -/
  mem : ∀ i, i < ops.size → knd ops i = 2 → ∀ id x, (st i).get id = some x → (K (num i)).get id = some x ∨ ∃ j, j < ops.size ∧ pre j i ∧ (∀ l, l < ops.size → knd ops l = 2 → num l < num i → ¬ pre j l) ∧ id = c j ∧ blk j = some x
  fresh : ∀ j, j < ops.size → ∀ x, blk j = some x → ∀ k, (∀ l, l < ops.size → knd ops l = 2 → num l < k → ¬ pre j l) → (∀ m, m < k → ∃ l, l < ops.size ∧ knd ops l = 2 ∧ num l = m) → (K k).get (c j) = none
  acy : ∀ i, i < ops.size → ¬ pre i i
  trn : ∀ i j k, pre i j → pre j k → pre i k
  lt : ∀ i j, j < ops.size → pre i j → i < ops.size
/-- The order of what is left is one that may be. -/
def Sched (n : Nat) (pre : Nat → Nat → Prop) : List Nat → (Nat → Prop) → Prop
  | [], S => ∀ i, i < n → S i
  | i :: l, S => i < n ∧ ¬ S i ∧ (∀ j, pre j i → S j) ∧ Sched n pre l (fun j => j = i ∨ S j)
section
variable {X call : Caller} {ops : Array Oper} {pre : Nat → Nat → Prop} {sl0 : T AV} {H0 : T AO} {nx0 nxF : Nat}
/-- What holds when the operations of S are done: of memory G is known. -/
structure Inv (T : Tells P X call N ops pre sl0 H0 nx0 nxF) (ρ0 : Map) (a0 : Act) (w0 : World) (S : Nat → Prop) (ρ : Map) (G : Heap) (a : Act) (w : World) : Prop where
  stp : Stp ρ0 ρ H0.get G w0 w nx0 nxF
  size : a.tmps.size = N
  defs : a.defers = a0.defers
  own : ∀ t v, (∀ k, k < ops.size → S k → opD ops k ≠ some t) → sl0.get t = some v → t < N ∧ VRel ρ v (a.tmps.getD t undef)
  out : ∀ i, S i → i < ops.size → ∀ t, opD ops i = some t → VRel ρ (T.v i) (a.tmps.getD t undef)
  fr : ∀ i, i < ops.size → ¬ S i → Fr ρ (T.c i) (T.c' i)
  /-- How many of the third kind are done. -/
  cnt : ∃ k, (∀ i, i < ops.size → knd ops i = 2 → (S i ↔ T.num i < k)) ∧ (∀ j, j < k → ∃ l, l < ops.size ∧ knd ops l = 2 ∧ T.num l = j) ∧ Heap.le (T.K k).get G ∧
    ∀ i, i < ops.size → S i → (∀ l, l < ops.size → knd ops l = 2 → T.num l < k → ¬ pre i l) → ∀ x, T.blk i = some x → G (T.c i) = some x
  dwn : ∀ i j, S j → pre i j → S i
theorem Stp.sub {ρ ρ' : Map} {H H' H2 : Heap} {w w' : World} {c c' : Nat} (h : Stp ρ ρ' H H' w w' c c') (k : Heap.le H2 H') : Stp ρ ρ' H H2 w w' c c' :=
  { h with rel := h.rel.sub k, new := fun id o b C e1 e2 => h.new id o b C (k id o e1) e2 }
/-- A step, and one more of all that is known. -/
theorem Stp.join {ρ ρ1 ρ2 : Map} {H G G1 : Heap} {w w1 w2 : World} {n nF c c' : Nat} {A B : Heap} (h : Stp ρ ρ1 H G w w1 n nF) (hs : Stp ρ1 ρ2 A B w1 w2 c c') (hle : Heap.le A G) (hf : Fr ρ1 c c') (hc : n ≤ c) (hc' : c' ≤ nF)
    (hG : G1 = Heap.over A B G) : Stp ρ ρ2 H G1 w w2 n nF := by
  subst hG
  obtain ⟨k1, k2, k3⟩ := Stp.over h.rel hle hs hf
  refine ⟨k1, h.le.trans hs.le, fun id hid => ?_, h.nxle, hs.os.trans h.os, hs.tape.trans h.tape, hs.output.trans h.output, Nat.le_trans h.size hs.size, fun b hb hn => ?_, fun id o b C e1 e2 => ?_⟩
  · rw [hs.out id (by omega), h.out id hid]
  · rw [k2 b (Nat.lt_of_lt_of_le hb h.size) ?_, h.keep b hb hn]
    intro id o C e1 e2
    rcases h.new id o b C e1 e2 with h1 | ⟨j, o', D, h1, h2⟩
    · omega
    · exact hn j o' D h1 h2
  · rcases k3 id o b C e1 e2 with h1 | ⟨j, o', D, h1, h2⟩
    · exact .inl (Nat.le_trans h.size h1)
    · exact h.new j o' b D h1 h2
theorem getD_put {a : Act} {d : Option Nat} {u : Value} {t : Nat} (h : d ≠ some t) : (a.put d u).tmps.getD t undef = a.tmps.getD t undef := by
  cases d with
  | none => rfl
  | some d =>
    simp only [Act.put, Array.getD_eq_getD_getElem?, Array.getElem?_setIfInBounds]
    rw [if_neg (fun e => h (by rw [e]))]
theorem getD_put_self {a : Act} {u : Value} {t : Nat} (h : t < a.tmps.size) : (a.put (some t) u).tmps.getD t undef = u := by
  simp [Act.put, Array.getD, h]
theorem size_put (a : Act) (d : Option Nat) (u : Value) : (a.put d u).tmps.size = a.tmps.size := by cases d <;> simp [Act.put]
theorem rel_nil (ρ : Map) (w : World) : Rel ρ nilH.get w := ⟨fun id o e => (nilH_get e).elim, fun i j o o' b C D e => (nilH_get e).elim⟩
variable {F : Fence} {n' : Nat} (hF : ∀ f, F.fn f) (hD : Calm F)
/-- The slots of the next one. -/
theorem inv_next (T : Tells P X call N ops pre sl0 H0 nx0 nxF) {ρ0 : Map} {a0 : Act} {w0 : World} {S : Nat → Prop} {ρ ρ1 : Map} {G : Heap} {a : Act} {w : World} (I : Inv T ρ0 a0 w0 S ρ G a w) {i : Nat} (hi : i < ops.size) (hpre : ∀ j, pre j i → S j)
    {u : Value} (hle : ρ.le ρ1) (hv : VRel ρ1 (T.v i) u) (hout : ∀ id, ¬ (T.c i ≤ id ∧ id < T.c' i) → ρ1 id = ρ id) {w1 : World} {G1 : Heap} (hstp : Stp ρ0 ρ1 H0.get G1 w0 w1 nx0 nxF)
    (hcnt : ∃ k, (∀ j, j < ops.size → knd ops j = 2 → ((j = i ∨ S j) ↔ T.num j < k)) ∧ (∀ j, j < k → ∃ l, l < ops.size ∧ knd ops l = 2 ∧ T.num l = j) ∧ Heap.le (T.K k).get G1 ∧
      ∀ j, j < ops.size → (j = i ∨ S j) → (∀ l, l < ops.size → knd ops l = 2 → T.num l < k → ¬ pre j l) → ∀ x, T.blk j = some x → G1 (T.c j) = some x) :
    Inv T ρ0 a0 w0 (fun j => j = i ∨ S j) ρ1 G1 (a.put (opD ops i) u) w1 where
  stp := hstp
  size := (size_put _ _ _).trans I.size
  defs := (put_defers _ _ _).trans I.defs
  own := fun t x h1 h2 => by
    obtain ⟨h3, h4⟩ := I.own t x (fun k hk hs => h1 k hk (.inr hs)) h2
    refine ⟨h3, ?_⟩
    rw [getD_put (h1 i hi (.inl rfl))]
    exact h4.mono hle
  out := fun j hj hjn t ht => by
    by_cases e : j = i
    · subst e
      rw [ht, getD_put_self (by rw [I.size]; exact (T.dst j hjn t ht).1)]
      exact hv
    · have hS : S j := hj.resolve_left e
      rw [getD_put (fun h => e ((T.dst j hjn t ht).2 i hi h))]
      exact (I.out j hS hjn t ht).mono hle
  fr := fun j hj hn => ⟨fun id h1 h2 => by
    have hne : j ≠ i := fun e => hn (.inl e)
    have hd := T.dis i j hi hj (Ne.symm hne)
    rw [hout id (by omega)]
    exact I.fr j hj (fun h => hn (.inr h)) id h1 h2, (I.fr j hj fun h => hn (.inr h)).gd.mono hle⟩
  cnt := hcnt
  dwn := fun j k hk hp => by
    rcases hk with rfl | hk
    · exact .inr (hpre j hp)
    · exact .inr (I.dwn j k hk hp)
include hF hD in
theorem drawn_run (hX : ExtOk P X) (hC : CallOk P call) (T : Tells P X call N ops pre sl0 H0 nx0 nxF) {ρ0 : Map} {a0 : Act} {w0 : World} {Q : Exit → Act → World → Prop}
    (hQ : ∀ S ρ G a w, (∀ i, i < ops.size → S i) → Inv T ρ0 a0 w0 S ρ G a w → Q .normal a w) : ∀ (l : List Nat) (S : Nat → Prop) (ρ : Map) (G : Heap) (a : Act) (w : World), Sched ops.size pre l S → Inv T ρ0 a0 w0 S ρ G a w → wpOpsIn F n' P ops Q l a w
  | [], S, ρ, G, a, w, hs, I => hQ S ρ G a w hs I
  | i :: l, S, ρ, G, a, w, hs, I => by
    obtain ⟨hi, hnS, hpre, hs'⟩ := hs
    have ih := drawn_run hX hC T hQ l
    have ho : ops[i]? = some ops[i] := Array.getElem?_eq_getElem hi
    have hget : ops.getD i default = ops[i] := by simp [Array.getD, hi]
    have hO : opO ops i = ops[i].op := by unfold opO; rw [hget]
    have hDd : opD ops i = ops[i].dst := by unfold opD; rw [hget]
    have hwant : Region.wanted ops[i] (yielded ops a.tmps) = T.wnt i := by
      rcases T.grd i hi with ⟨hg, hw⟩ | ⟨j, want, t, hg, hj, hp, hd, hv⟩
      · rw [hget] at hg; rw [hw]; simp [Region.wanted, hg]
      · rw [hget] at hg
        have hr := I.out j (hpre j hp) hj t hd
        have htl : t < a.tmps.size := by rw [I.size]; exact (T.dst j hj t hd).1
        have hy : ((ops[j]?).bind (·.dst)) = some t := by
          have hd' := hd
          unfold opD at hd'
          rw [Array.getElem?_eq_getElem hj]
          simpa [Array.getD, hj] using hd'
        have h4 : a.tmps[t]? = some (a.tmps.getD t undef) := by simp [Array.getD, htl]
        rcases hv with ⟨x, hx, hw⟩ | ⟨l', hx, hw⟩
        · rw [hx] at hr
          have hr : a.tmps.getD t undef = .bool x := hr
          rw [hw]
          simp only [Region.wanted, hg, yielded, hy, Option.bind_some, h4, hr]
          cases x <;> cases want <;> rfl
        · rw [hx] at hr
          obtain ⟨c, hc, _⟩ := hr
          rw [hw]
          simp only [Region.wanted, hg, yielded, hy, Option.bind_some, h4, hc]
          cases want <;> rfl
    cases hw : T.wnt i with
    | false =>
      simp only [wpOpsIn, ho, hwant, hw, Bool.false_eq_true, if_false]
      refine ⟨fun f _ => hF f, ?_⟩
      rw [← hDd]
      obtain ⟨u1, u2, u3⟩ := T.uw i hi hw
      have hv : VRel ρ (T.v i) undef := by rw [u1]; exact ⟨#[], rfl, rfl⟩
      obtain ⟨k, c1, c2, c3, c4⟩ := I.cnt
      by_cases hk : knd ops i = 2
      · have hnum : T.num i = k := by
          have h1 : ¬ T.num i < k := fun h => hnS ((c1 i hi hk).2 h)
          have h2 : ¬ k < T.num i := by
            intro h
            obtain ⟨j, hj, hj2, hjk⟩ := T.full i hi hk k h
            have := T.ord j i hj hi hj2 hk (by omega)
            have := (c1 j hj hj2).1 (hpre j this)
            omega
          omega
        have hst : Heap.le (T.st i).get G := by
          intro id x e
          rcases T.mem i hi hk id x e with h1 | ⟨j, hj, hp, hn, rfl, hx⟩
          · rw [hnum] at h1; exact c3 id x h1
          · exact c4 j hj (hpre j hp) (fun l hl hl2 hlt => hn l hl hl2 (by omega)) x hx
        refine ih _ ρ G _ w hs' (inv_next T I hi hpre (.refl _) hv (fun _ _ => rfl) I.stp ⟨k + 1, fun j hj hj2 => ?_, fun j hj => ?_, ?_, fun j hj hjS hjp x hx => ?_⟩)
        · constructor
          · rintro (rfl | h)
            · omega
            · have := (c1 j hj hj2).1 h; omega
          · intro h
            by_cases hjk : T.num j < k
            · exact .inr ((c1 j hj hj2).2 hjk)
            · exact .inl (T.inj j i hj hi hj2 hk (by omega))
        · by_cases hjk : j < k
          · exact c2 j hjk
          · exact ⟨i, hi, hk, by omega⟩
        · rw [← hnum, T.kst' i hi hk, u3 hk]; exact hst
        · have hji : j ≠ i := by
            rintro rfl
            rw [u2] at hx; cases hx
          exact c4 j hj (hjS.resolve_left hji) (fun l hl hl2 hlt => hjp l hl hl2 (by omega)) x hx
      · refine ih _ ρ G _ w hs' (inv_next T I hi hpre (.refl _) hv (fun _ _ => rfl) I.stp ⟨k, fun j hj hj2 => ?_, c2, c3, fun j hj hjS hjp x hx => ?_⟩)
        · constructor
          · rintro (rfl | h)
            · exact absurd hj2 hk
            · exact (c1 j hj hj2).1 h
          · exact fun h => .inr ((c1 j hj hj2).2 h)
        · have hji : j ≠ i := by
            rintro rfl
            rw [u2] at hx; cases hx
          exact c4 j hj (hjS.resolve_left hji) hjp x hx
    | true =>
    simp only [wpOpsIn, ho, hwant, hw, if_true]
    -- its slots
    have hS : SRel N ρ (T.slr i) a := by
      refine ⟨I.size, fun t x e => ?_⟩
      rcases T.sl i hi t x e with ⟨k, hk, hp, hd, rfl⟩ | ⟨h1, h2⟩
      · exact ⟨(T.dst k hk t hd).1, I.out k (hpre k hp) hk t hd⟩
      · exact I.own t x (fun k hk hs hd => by
          rcases h1 k hk hd with rfl | hp
          · exact hnS hs
          · exact hnS (I.dwn i k hs hp)) h2
    obtain ⟨hr1, hr2, hr3⟩ := T.rng i hi
    have hfr := I.fr i hi hnS
    obtain ⟨k, c1, c2, c3, c4⟩ := I.cnt
    rcases T.kz i hi with hk | hk | hk
    · -- slots alone
      obtain ⟨h1, he, hb⟩ := T.k0 i hi hk hw
      rw [hO] at he
      let B : Heap := fun id => if id = T.c i then T.blk i else none
      have hB : Heap.le B h1.get := by
        intro id x e
        by_cases hid : id = T.c i
        · simp only [B, hid, if_true] at e
          rw [hid]; exact (hb x e).2
        · simp only [B, hid, if_false] at e; cases e
      obtain ⟨ρ1, w1, hs1, hr⟩ := evM_run (o := ops[i]) (rel_nil ρ w) hS he hfr
      have hs2 := hs1.sub hB
      have hle : Heap.le (nilH).get G := fun id o e => (nilH_get e).elim
      have hjoin := I.stp.join hs2 hle hfr hr1 hr3 rfl
      have hov : ∀ id o, (B id = some o → Heap.over (nilH).get B G id = some o) ∧ (B id = none → Heap.over (nilH).get B G id = G id) := by
        intro id o
        constructor
        · intro e; simp only [Heap.over, e]
        · intro e; simp only [Heap.over, e, nilH_none]
      have hBn : ∀ id, (∀ x, T.blk i = some x → id ≠ T.c i) → B id = none := by
        intro id h
        by_cases hid : id = T.c i
        · simp only [B, hid, if_true]
          cases e : T.blk i with
          | none => rfl
          | some x => exact absurd hid (h x e)
        · simp only [B, hid, if_false]
      have go : ∀ u, VRel ρ1 (T.v i) u → wpOpsIn F n' P ops Q l (a.put ops[i].dst u) w1 := by
        intro u hv
        rw [← hDd]
        refine ih _ ρ1 _ _ w1 hs' (inv_next T I hi hpre hs1.le hv hs1.out hjoin ⟨k, fun j hj hj2 => ?_, c2, fun id o e => ?_, fun j hj hjS hjp x hx => ?_⟩)
        · constructor
          · rintro (rfl | h)
            · rw [hk] at hj2; cases hj2
            · exact (c1 j hj hj2).1 h
          · exact fun h => .inr ((c1 j hj hj2).2 h)
        · have hG := c3 id o e
          rw [(hov id o).2 (hBn id fun x hx hid => ?_)]
          · exact hG
          · subst hid
            obtain ⟨b, C, ob, h3, _⟩ := I.stp.rel.has _ o hG
            rw [hfr _ (Nat.le_refl _) (hb x hx).1] at h3; cases h3
        · by_cases hji : j = i
          · subst hji
            exact (hov _ x).1 (by simp only [B, if_true]; exact hx)
          · have hGj := c4 j hj (hjS.resolve_left hji) hjp x hx
            rw [(hov _ x).2 (hBn _ fun y hy hc => ?_)]
            · exact hGj
            · obtain ⟨b, C, ob, h3, _⟩ := I.stp.rel.has _ x hGj
              rw [hc, hfr _ (Nat.le_refl _) (hb y hy).1] at h3; cases h3
      refine ⟨fun f _ => hF f, ?_⟩
      have hnd : ∀ c, ops[i].op ≠ .defer c := by
        intro c hc
        rw [hc] at he
        simp [evM, evP, ofO] at he
      rw [semAt_ok hnd]
      rcases hr with ⟨u, hrun, hv⟩ | ⟨hrun, hvv⟩
      · rw [hrun]; exact go u hv
      · rw [hrun]; exact go undef (by rw [hvv]; exact ⟨#[], rfl, rfl⟩)
    · -- a load
      have h3 := T.k1 i hi hk hw k (fun j hj hj2 hp => (c1 j hj hj2).1 (hpre j hp)) (fun j hj hj2 hlt hp => hnS (I.dwn i j ((c1 j hj hj2).2 hlt) hp)) c2
      rw [hO] at h3
      obtain ⟨hnd, u, hrun, k2⟩ : (∀ c, ops[i].op ≠ .defer c) ∧ ∃ u, (execOp a.eval ops[i]).run P w = .ok (.value u) w ∧ VRel ρ (T.v i) u := by
        rcases h3 with h3 | ⟨j, b, hj, hp, hb, hst, h3⟩
        · have hRK : Rel ρ (T.K k).get w := I.stp.rel.sub c3
          exact evRd_run hRK hS h3
        · have hG := c4 j hj (hpre j hp) (fun l hl hl2 hlt hpl => hnS (I.dwn i l ((c1 l hl hl2).2 hlt) (hst l hl hl2 hpl))) b hb
          have hle : Heap.le (nilH.put (T.c j) b).get G := fun id o e => by
            obtain ⟨e1, e2⟩ := nilH_put e
            rw [e1, e2]; exact hG
          have hRK : Rel ρ (nilH.put (T.c j) b).get w := I.stp.rel.sub hle
          exact evRd_run hRK hS h3
      refine ⟨fun f _ => hF f, ?_⟩
      rw [semAt_ok (o := ops[i]) hnd, hrun]
      show wpOpsIn F n' P ops Q l (a.put ops[i].dst u) w
      rw [← hDd]
      refine ih _ ρ G _ w hs' (inv_next T I hi hpre (.refl _) k2 (fun _ _ => rfl) I.stp ⟨k, fun j hj hj2 => ?_, c2, c3, fun j hj hjS hjp x hx => ?_⟩)
      · constructor
        · rintro (rfl | h)
          · rw [hk] at hj2; cases hj2
          · exact (c1 j hj hj2).1 h
        · exact fun h => .inr ((c1 j hj hj2).2 h)
      · rcases hjS with rfl | h
        · rw [T.blk0 j hj (by rw [hk]; decide)] at hx; cases hx
        · exact c4 j hj h hjp x hx
    · -- all else
      have hnum : T.num i = k := by
        have h1 : ¬ T.num i < k := fun h => hnS ((c1 i hi hk).2 h)
        have h2 : ¬ k < T.num i := by
          intro h
          obtain ⟨j, hj, hj2, hjk⟩ := T.full i hi hk k h
          have := T.ord j i hj hi hj2 hk (by omega)
          have := (c1 j hj hj2).1 (hpre j this)
          omega
        omega
      have hst : Heap.le (T.st i).get G := by
        intro id x e
        rcases T.mem i hi hk id x e with h1 | ⟨j, hj, hp, hn, rfl, hx⟩
        · rw [hnum] at h1; exact c3 id x h1
        · exact c4 j hj (hpre j hp) (fun l hl hl2 hlt => hn l hl hl2 (by omega)) x hx
      have he := T.k2 i hi hk hw
      rw [hO] at he
      refine oper_run hF hD hX hC he (I.stp.rel.sub hst) hS hfr fun ρ1 u w1 hs1 hv => ?_
      show wpOpsIn F n' P ops Q l (a.put ops[i].dst u) w1
      rw [← hDd]
      refine ih _ ρ1 (Heap.over (T.st i).get (T.st' i).get G) _ w1 hs' (inv_next T I hi hpre hs1.le hv hs1.out (I.stp.join hs1 hst hfr hr1 hr3 rfl) ⟨k + 1, fun j hj hj2 => ?_, fun j hj => ?_, ?_, fun j hj hjS hjp x hx => ?_⟩)
      · constructor
        · rintro (rfl | h)
          · omega
          · have := (c1 j hj hj2).1 h; omega
        · intro h
          by_cases hjk : T.num j < k
          · exact .inr ((c1 j hj hj2).2 hjk)
          · exact .inl (T.inj j i hj hi hj2 hk (by omega))
      · by_cases hjk : j < k
        · exact c2 j hjk
        · exact ⟨i, hi, hk, by omega⟩
      · rw [← hnum, T.kst' i hi hk]
        intro id x e
        simp only [Heap.over, e]
      · have hji : j ≠ i := by
          rintro rfl
          rw [T.blk0 j hj (by rw [hk]; decide)] at hx; cases hx
        have hSj := hjS.resolve_left hji
        have hGj := c4 j hj hSj (fun l hl hl2 hlt => hjp l hl hl2 (by omega)) x hx
        have c2' : ∀ m, m < k + 1 → ∃ l, l < ops.size ∧ knd ops l = 2 ∧ T.num l = m := fun m hm => by
          by_cases hmk : m < k
          · exact c2 m hmk
          · exact ⟨i, hi, hk, by omega⟩
        have f1 := T.fresh j hj x hx (k + 1) hjp c2'
        rw [← hnum, T.kst' i hi hk] at f1
        have f0 := T.fresh j hj x hx k (fun l hl hl2 hlt => hjp l hl hl2 (by omega)) c2
        have f2 : (T.st i).get (T.c j) = none := by
          cases e : (T.st i).get (T.c j) with
          | none => rfl
          | some y =>
            rcases T.mem i hi hk _ y e with h1 | ⟨m, hm, hp, _, hcm, hx'⟩
            · rw [hnum, f0] at h1; cases h1
            · have hjm : j = m := by
                by_cases e : j = m
                · exact e
                · exfalso
                  have hd := T.dis j m hj hm e
                  have k0j : knd ops j = 0 := by
                    rcases T.kz j hj with h | h | h
                    · exact h
                    · rw [T.blk0 j hj (by rw [h]; decide)] at hx; cases hx
                    · rw [T.blk0 j hj (by rw [h]; decide)] at hx; cases hx
                  have k0m : knd ops m = 0 := by
                    rcases T.kz m hm with h | h | h
                    · exact h
                    · rw [T.blk0 m hm (by rw [h]; decide)] at hx'; cases hx'
                    · rw [T.blk0 m hm (by rw [h]; decide)] at hx'; cases hx'
                  have wj : T.wnt j = true := by
                    cases e : T.wnt j with
                    | true => rfl
                    | false => rw [(T.uw j hj e).2.1] at hx; cases hx
                  have wm : T.wnt m = true := by
                    cases e : T.wnt m with
                    | true => rfl
                    | false => rw [(T.uw m hm e).2.1] at hx'; cases hx'
                  obtain ⟨_, _, q1⟩ := T.k0 j hj k0j wj
                  obtain ⟨_, _, q2⟩ := T.k0 m hm k0m wm
                  have := (q1 x hx).1
                  have := (q2 y hx').1
                  omega
              subst hjm
              exact absurd hp (hjp i hi hk (by omega))
        simp only [Heap.over, f1, f2]
        exact hGj
end
end Go.Proofs.YteogphbdpjnjoaaGreat
