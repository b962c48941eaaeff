/- New blocks: variables, boxes, rows. No Go program in this text. -/
import Derived.Test.YtmhnnfponloihaaDoorEvJ
set_option linter.unusedSimpArgs false
set_option linter.unusedVariables false
namespace Go.Proofs.YtmhnnfponloihaaDoor
open Go.RowKit
variable {ρ : Map} {P : Program} {N : Nat} {sl : T AV} {a : Act} {h : T AO} {w : World} {nx : Nat}

/-- Values as cells, from a place on. -/
noncomputable def ofA : AVs → Nat → T AV → T AV
  | .nil, _, t => t
  | .cons v l, k, t => (t.put k v).seq fun t => ofA l (Nat.succ k) t
theorem ofA_cons (v : AV) (l : AVs) (k : Nat) (t : T AV) : ofA (.cons v l) k t = ofA l (k + 1) (t.put k v) := by simp only [ofA, T.seq_eq]
theorem ofA_get : ∀ {l : AVs} {off : Nat} {t : T AV} (k : Nat), (ofA l off t).get k = if off ≤ k ∧ k < off + l.len then l.get (k - off) else t.get k
  | .nil, off, t, k => by
    have hl : AVs.nil.len = 0 := rfl
    rw [if_neg (by omega)]; rfl
  | .cons v l, off, t, k => by
    have hl : (AVs.cons v l).len = l.len + 1 := rfl
    rw [ofA_cons, ofA_get k, T.get_put]
    by_cases hk : k = off
    · subst hk
      rw [if_neg (by omega), if_pos rfl, if_pos (by omega)]
      simp [AVs.get]
    · rw [if_neg hk]
      by_cases h3 : off + 1 ≤ k ∧ k < off + 1 + l.len
      · rw [if_pos h3, if_pos (by omega)]
        obtain ⟨j, hj⟩ : ∃ j, k - off = j + 1 := ⟨k - off - 1, by omega⟩
        rw [hj, show k - (off + 1) = j by omega]; rfl
      · rw [if_neg h3, if_neg (by omega)]
theorem avs_some : ∀ (l : AVs) (j : Nat), j < l.len → (l.get j).isSome = true := by
  intro l
  induction l using AVs.rec (motive_1 := fun _ => True) with
  | nil => intro j hj; simp [AVs.len] at hj
  | cons a l _ ih =>
    intro j hj
    cases j with
    | zero => simp [AVs.get]
    | succ j => simp only [AVs.get]; exact ih j (by simp [AVs.len] at hj; omega)
  | _ => trivial
theorem CRel.of_avs {l : AVs} {m : List Value} (hm : VsRel ρ l m) {c : Array Value} (hc : ∀ k, k < m.length → c[k]? = m[k]?) : CRel ρ (ofA l 0 .nil) c := by
  intro k v e
  rw [ofA_get, T.get_nil] at e
  split at e
  · rename_i hk
    obtain ⟨u, hu, hr⟩ := hm.at e
    have := hm.len
    exact ⟨u, by rw [hc k (by omega)]; exact hu, hr⟩
  · cases e
theorem VsRel.mono' {ρ' : Map} (h : ρ.le ρ') {l : AVs} {m : List Value} (k : VsRel ρ l m) : VsRel ρ' l m := VsRel.mono h l m k
/-- A new block of cells. -/
theorem new_stp (hR : Rel ρ h.get w) (hf : ρ nx = none) (e : TypeId) {l : AVs} {m : List Value} (hm : VsRel ρ l m) (c : Array Value) (hc : ∀ k, k < m.length → c[k]? = m[k]?) (hsz : c.size = m.length) (w' : World)
    (hos : w'.os = w.os) (ht : w'.tape = w.tape) (hout : w'.output = w.output) (hh : w'.heap = w.heap.push (.cells c e)) :
    Stp ρ (ρ.set nx (w.heap.size, 0)) h.get (h.put nx (.cells (ofA l 0 .nil) l.len e)).get w w' nx (nx + 1) :=
  Stp.new_ hR hf (.cells c e) (.cells (ofA l 0 .nil) l.len e) 0 ⟨c, rfl, by rw [hsz, hm.len], CRel.of_avs (hm.mono' (Map.set_le hf)) hc⟩ w' hos ht hout hh
theorem set_self (ρ : Map) (id : Nat) (x : Nat × Nat) : (ρ.set id x) id = some x := by simp [Map.set]
/-- One value, in a new block. -/
noncomputable def evBox (h : T AO) (nx : Nat) (t : TypeId) (v : AV) : R := (h.put nx (.cells (ofA v.cells 0 .nil) v.cells.len t)).seq fun h => .ok (.p nx 0) h (Nat.succ nx)
theorem evBox_run (hR : Rel ρ h.get w) {t : TypeId} {v : AV} {v' : Value} (hv : VRel ρ v v') {r : AV} {h' : T AO} {nx' : Nat} (e : evBox h nx t v = .ok r h' nx') (hf : Fr ρ nx nx') :
    ∃ ρ' u w', (newVar t v').run P w = .ok u w' ∧ VRel ρ' r (.pointer (some u)) ∧ Stp ρ ρ' h.get h'.get w w' nx nx' := by
  simp only [evBox, T.seq_eq] at e
  cases e
  have hf' : ρ nx = none := hf nx (Nat.le_refl _) (Nat.lt_succ_self _)
  refine ⟨ρ.set nx (w.heap.size, 0), ⟨w.heap.size, 0, none⟩, w.alloc (.cells v'.cells t), rfl, ⟨w.heap.size, 0, set_self _ _ _, rfl⟩, new_stp hR hf' t hv.cells v'.cells (fun k hk => by simp) (by simp) _ rfl rfl rfl rfl⟩
/-- A row of n equal elements. -/
def repl : Nat → AVs → AVs
  | 0, _ => .nil
  | n + 1, z => z.app (repl n z)
theorem repl_rel {z : AVs} {m : List Value} (hz : VsRel ρ z m) : ∀ n, VsRel ρ (repl n z) (List.replicate n m).flatten
  | 0 => rfl
  | n + 1 => by rw [List.replicate_succ, List.flatten_cons]; exact hz.app (repl_rel hz n)
theorem flat_get (m : List Value) : ∀ (n k : Nat), k < n * m.length → (List.replicate n m).flatten[k]? = m[k % m.length]?
  | 0, k, h => by omega
  | n + 1, k, h => by
    rw [List.replicate_succ, List.flatten_cons]
    rw [Nat.succ_mul] at h
    by_cases hk : k < m.length
    · rw [List.getElem?_append_left hk, Nat.mod_eq_of_lt hk]
    · rw [List.getElem?_append_right (by omega), flat_get m n (k - m.length) (by omega), ← Nat.mod_eq_sub_mod (a := k) (b := m.length) (by omega)]
theorem rangeZ (zero : Array Value) (n : Nat) (hz : 0 < zero.size) : ((Array.range (n * zero.size)).map (fun i => zero[i % zero.size]!)).toList = (List.replicate n zero.toList).flatten := by
  apply List.ext_getElem?
  intro k
  by_cases hk : k < n * zero.size
  · rw [flat_get zero.toList n k (by simpa using hk)]
    have hlt : k % zero.size < zero.size := Nat.mod_lt _ hz
    simp [hk, hlt]
  · have h1 : ((Array.range (n * zero.size)).map (fun i => zero[i % zero.size]!)).toList.length ≤ k := by simp; omega
    have h2 : (List.replicate n zero.toList).flatten.length ≤ k := by simp; omega
    rw [List.getElem?_eq_none h1, List.getElem?_eq_none h2]
/-- A row that is written out. -/
def rowTy (P : Program) (t : TypeId) : Option (TypeId × Nat × AV) :=
  match P.underlying t with
  | some (.slice e) => match sizeTy P e, zeroTy P e with
    | some n, some z => bif Nat.beq z.cells.len n && Nat.ble 1 n then some (e, n, z) else none
    | _, _ => none
  | _ => none
theorem rowTy_is {t e : TypeId} {n : Nat} {z : AV} (h : rowTy P t = some (e, n, z)) : P.underlying t = some (.slice e) ∧ sizeTy P e = some n ∧ zeroTy P e = some z ∧ z.cells.len = n ∧ 0 < n := by
  unfold rowTy at h
  split at h
  · rename_i e' hu
    split at h
    · rename_i n' z' h1 h2
      obtain ⟨h3, h4⟩ := bif_some h
      cases h4
      rw [Bool.and_eq_true, Nat.beq_eq, Nat.ble_eq] at h3
      exact ⟨hu, h1, h2, h3.1, h3.2⟩
    · cases h
  · cases h
noncomputable def evRow (P : Program) (h : T AO) (nx : Nat) (t : TypeId) (len : Nat) (l : List (Nat × AV)) : R :=
  match rowTy P t with
  | some (e, n, z) => bif Nat.ble (Nat.mul len n) 16777216 && Nat.ble 1 len then
      match evFill (fun i => some (i * n, n)) (repl len z.cells) l with
      | some c => (h.put nx (.cells (ofA c 0 .nil) c.len e)).seq fun h => .ok (.sl nx 0 len len) h (Nat.succ nx)
      | none => .bad
    else .bad
  | none => .bad
theorem bif_ok {b : Bool} {x : R} {v : AV} {h : T AO} {n : Nat} (e : (bif b then x else .bad) = .ok v h n) : b = true ∧ x = .ok v h n := by cases b <;> simp at e; exact ⟨rfl, e⟩
theorem evRow_run (hR : Rel ρ h.get w) {t : TypeId} {len : Nat} {l : List (Nat × AV)} {m : Array (Nat × Value)} (hp : PRel ρ l m.toList) {r : AV} {h' : T AO} {nx' : Nat} (e : evRow P h nx t len l = .ok r h' nx') (hf : Fr ρ nx nx') :
    ∃ ρ' u w', (Instr.buildSlice t len m).run P w = .ok u w' ∧ VRel ρ' r u ∧ Stp ρ ρ' h.get h'.get w w' nx nx' := by
  unfold evRow at e
  split at e
  · rename_i el n z hrow
    obtain ⟨hu, hn, hz, hzl, hn0⟩ := rowTy_is hrow
    obtain ⟨h1, e⟩ := bif_ok e
    rw [Bool.and_eq_true, Nat.ble_eq, Nat.ble_eq] at h1
    split at e
    · rename_i c hc
      rw [T.seq_eq] at e; cases e
      have hf' : ρ nx = none := hf nx (Nat.le_refl _) (Nat.lt_succ_self _)
      obtain ⟨z', hzr, hzv⟩ := zero_run (ρ := ρ) hz
      have hzc := hzv.cells
      have hzs : z'.cells.size = n := by have := hzc.len; rw [hzl] at this; simpa using this.symm
      have hmul : len * n ≤ 16777216 := h1.1
      have hnot : ¬ (2 ^ 24 < len * n) := by omega
      have hne : len * n ≠ 0 := by
        have : 0 < len * n := Nat.mul_pos h1.2 hn0
        omega
      have hcells : ((Array.range (len * n)).map (fun i => z'.cells[i % z'.cells.size]!)).toList = (List.replicate len z'.cells.toList).flatten := by rw [← hzs]; exact rangeZ z'.cells len (by omega)
      obtain ⟨d, hd1, hd2⟩ := evFill_run (place := fun i => some (i * n, n)) hp (d := (Array.range (len * n)).map (fun i => z'.cells[i % z'.cells.size]!)) (by rw [hcells]; exact repl_rel hzc len) hc
      refine ⟨ρ.set nx (w.heap.size, 0), .slice (some ⟨w.heap.size, 0, none⟩) len len, w.alloc (.cells d el), ?_, ⟨w.heap.size, 0, set_self _ _ _, rfl⟩, new_stp hR hf' el hd2 d (fun k hk => by simp) (by simp) _ rfl rfl rfl rfl⟩
      simp only [Instr.buildSlice, Sem.run_bind, run_underlying hu, Result.andThen_ok, sizeOf_run hn, gt_iff_lt, hnot, if_false, hne, hzr, Sem.run_pure, hd1, newRow, run_newObj]
      rfl
    · cases e
  · cases e
end Go.Proofs.YtmhnnfponloihaaDoor
