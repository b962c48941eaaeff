/- Operations on memory: loads, stores, new blocks, rows. No Go program in this text. -/
import Derived.Test.YtmhnnfponloihaaDoorEvI
import Derived.Laws.CopyRow
set_option linter.unusedSimpArgs false
set_option linter.unusedVariables false
namespace Go.Proofs.YtmhnnfponloihaaDoor
open Go.RowKit
variable {ρ : Map} {P : Program} {N : Nat} {sl : T AV} {a : Act} {h : T AO} {w : World} {nx : Nat}

/-- What an operation has come to. -/
inductive R where
  | ok (v : AV) (h : T AO) (nx : Nat)
  | bad
def Does (P : Program) (ρ : Map) (h h' : T AO) (nx nx' : Nat) (v : AV) (s : Sem Next) (w : World) : Prop :=
  ∃ ρ' w', Stp ρ ρ' h.get h'.get w w' nx nx' ∧ ((∃ u, s.run P w = .ok (.value u) w' ∧ VRel ρ' v u) ∨ (s.run P w = .ok .skip w' ∧ v = .tup .nil))
def AO.tr : AO → Option (T AV)
  | .cells t _ _ => some t
  | .grow t _ _ _ => some t
  | .iter _ _ _ => none
  | .ro _ => none
  | .lp _ _ _ _ _ _ => none
  | .mps _ => none
/-- What may be read. -/
def AO.rd : AO → Option (T AV)
  | .cells t _ _ => some t
  | .grow t _ _ _ => some t
  | .iter _ _ _ => none
  | .ro t => some t
  | .lp _ _ _ _ _ _ => none
  | .mps _ => none
def AO.ty : AO → TypeId
  | .cells _ _ e => e
  | .grow _ _ _ e => e
  | .iter _ _ _ => 0
  | .ro _ => 0
  | .lp _ _ _ _ _ _ => 0
  | .mps _ => 0
theorem ORel.tr {C : Nat} {o : AO} {ob : Obj} (hR : ORel ρ C o ob) {t : T AV} (ht : o.tr = some t) : ∃ c, ob = .cells c o.ty (0, 0) ∧ CRel ρ t c := by
  cases o with
  | cells t' n e => simp only [AO.tr] at ht; cases ht; obtain ⟨c, h1, _, h2⟩ := hR; exact ⟨c, h1, h2⟩
  | grow t' n z e => simp only [AO.tr] at ht; cases ht; obtain ⟨c, h1, _, _, _, _, h2⟩ := hR; exact ⟨c, h1, h2⟩
  | iter _ _ _ => simp [AO.tr] at ht
  | ro _ => simp [AO.tr] at ht
  | lp _ _ _ _ _ _ => simp [AO.tr] at ht
  | mps _ => simp [AO.tr] at ht
theorem ORel.rd {C : Nat} {o : AO} {ob : Obj} (hR : ORel ρ C o ob) {t : T AV} (ht : o.rd = some t) : ∃ c e f, ob = .cells c e f ∧ CRel ρ t c := by
  cases o with
  | cells t' n e => simp only [AO.rd] at ht; cases ht; obtain ⟨c, h1, _, h2⟩ := hR; exact ⟨c, _, _, h1, h2⟩
  | grow t' n z e => simp only [AO.rd] at ht; cases ht; obtain ⟨c, h1, _, _, _, _, h2⟩ := hR; exact ⟨c, _, _, h1, h2⟩
  | iter _ _ _ => simp [AO.rd] at ht
  | ro t' => simp only [AO.rd] at ht; cases ht; exact hR
  | lp _ _ _ _ _ _ => simp [AO.rd] at ht
  | mps _ => simp [AO.rd] at ht
theorem cell_at {b off : Nat} {c : Array Value} {e : TypeId} {f : Nat × Nat} (hb : w.heap[b]? = some (.cells c e f)) : w.cell? ⟨b, off, none⟩ = c[off]? := by simp [World.cell?, hb]
/-- A block that is known. -/
theorem rel_block (hR : Rel ρ h.get w) {id : Nat} {o : AO} {t : T AV} (hid : h.get id = some o) (ht : o.tr = some t) {b C : Nat} (hb : ρ id = some (b, C)) : ∃ c, w.heap[b]? = some (.cells c o.ty (0, 0)) ∧ CRel ρ t c := by
  obtain ⟨b', C', ob, h1, h2, h3⟩ := hR.has id o hid
  rw [hb] at h1; cases h1
  obtain ⟨c, rfl, h4⟩ := h3.tr ht
  exact ⟨c, h2, h4⟩
theorem rel_read (hR : Rel ρ h.get w) {id : Nat} {o : AO} {t : T AV} (hid : h.get id = some o) (ht : o.rd = some t) {b C : Nat} (hb : ρ id = some (b, C)) : ∃ c e f, w.heap[b]? = some (.cells c e f) ∧ CRel ρ t c := by
  obtain ⟨b', C', ob, h1, h2, h3⟩ := hR.has id o hid
  rw [hb] at h1; cases h1
  obtain ⟨c, e, f, rfl, h4⟩ := h3.rd ht
  exact ⟨c, e, f, h2, h4⟩
/-- n cells from a place on. -/
noncomputable def readN (t : T AV) : Nat → Nat → Option AVs
  | 0, _ => some .nil
  | n + 1, off => match t.get off with
    | some v => match readN t n (Nat.succ off) with | some l => some (.cons v l) | none => none
    | none => none
theorem readN_rel {t : T AV} {c : Array Value} (hc : CRel ρ t c) : ∀ (n off : Nat) {l : AVs}, readN t n off = some l → off + n ≤ c.size ∨ n = 0 → VsRel ρ l ((c.toList.drop off).take n)
  | 0, off, l, h, _ => by simp only [readN] at h; cases h; simp [VsRel]
  | n + 1, off, l, h, hn => by
    simp only [readN] at h
    cases e : t.get off with
    | none => simp [e] at h
    | some v =>
      cases f : readN t n (Nat.succ off) with
      | none => simp [e, f] at h
      | some m =>
        simp [e, f] at h; subst h
        obtain ⟨u, hu, hv⟩ := hc off v e
        have hlt : off < c.size := (Array.getElem?_eq_some_iff.1 hu).1
        have hd : c.toList.drop off = u :: c.toList.drop (off + 1) := by
          rw [List.drop_eq_getElem_cons (by simpa using hlt)]
          congr 1
          have := (Array.getElem?_eq_some_iff.1 hu).2
          simpa using this
        refine ⟨u, _, ?_, hv, readN_rel hc n (off + 1) f (by omega)⟩
        rw [hd, List.take_succ_cons]
theorem readN_le {t : T AV} {c : Array Value} (hc : CRel ρ t c) : ∀ (n off : Nat) {l : AVs}, readN t n off = some l → 0 < n → off + n ≤ c.size
  | 0, off, l, h, hn => by omega
  | n + 1, off, l, h, _ => by
    simp only [readN] at h
    cases e : t.get off with
    | none => simp [e] at h
    | some v =>
      cases f : readN t n (Nat.succ off) with
      | none => simp [e, f] at h
      | some m =>
        obtain ⟨u, hu, _⟩ := hc off v e
        have hlt : off < c.size := (Array.getElem?_eq_some_iff.1 hu).1
        by_cases hn : n = 0
        · omega
        · have := readN_le hc n (off + 1) f (by omega); omega
theorem readN_run {t : T AV} {c : Array Value} {e : TypeId} {f : Nat × Nat} {b : Nat} (hb : w.heap[b]? = some (.cells c e f)) (hc : CRel ρ t c) {n off : Nat} {l : AVs} (hl : readN t n off = some l) :
    ∃ m : List Value, m.length = n ∧ VsRel ρ l m ∧ (∀ j u, m[j]? = some u → w.cell? ((⟨b, off, none⟩ : Addr).add j) = some u) ∧ (loadCells ⟨b, off, none⟩ n).run P w = .ok m.toArray w := by
  have hle : off + n ≤ c.size ∨ n = 0 := by
    by_cases h0 : n = 0
    · exact .inr h0
    · exact .inl (readN_le hc n off hl (by omega))
  have hr := readN_rel hc n off hl hle
  have hlen : ((c.toList.drop off).take n).length = n := by
    rcases hle with h1 | h1
    · simp; omega
    · simp [h1]
  have hcell : ∀ j u, ((c.toList.drop off).take n)[j]? = some u → w.cell? ((⟨b, off, none⟩ : Addr).add j) = some u := by
    intro j u hj
    rw [addr_add, cell_at hb]
    have hjn : j < n := by have := (List.getElem?_eq_some_iff.1 hj).1; omega
    rw [List.getElem?_take_of_lt hjn, List.getElem?_drop] at hj
    simpa using hj
  have hrun := run_loadCells_list (P := P) w ⟨b, off, none⟩ _ hcell
  rw [hlen] at hrun
  exact ⟨_, hlen, hr, hcell, hrun⟩
noncomputable def evLoad (P : Program) (h : T AO) (t : TypeId) (x : AV) : Option AV :=
  match x with
  | .p id off => match h.get id with
    | some o => match o.rd with
      | some tr => match aggTy P t, sizeTy P t with
        | 1, some n => match readN tr n off with | some l => some (.agg l) | none => none
        | 2, _ => tr.get off
        | _, _ => none
      | none => none
    | none => none
  | _ => none
theorem evLoad_run (hR : Rel ρ h.get w) {t : TypeId} {x : AV} {x' : Value} (hx : VRel ρ x x') {v : AV} (hv : evLoad P h t x = some v) : ∃ u, (Instr.loadAt t x').run P w = .ok u w ∧ VRel ρ v u := by
  unfold evLoad at hv
  split at hv
  · rename_i id off
    obtain ⟨b, C, hb, rfl⟩ := hx
    split at hv
    · rename_i o hid
      split at hv
      · rename_i tr ht
        obtain ⟨c, _, _, hblk, hc⟩ := rel_read hR hid ht hb
        split at hv
        · rename_i n h1 h2
          split at hv <;> cases hv
          rename_i l hl
          obtain ⟨m, _, hm, _, hrun⟩ := readN_run (P := P) hblk hc hl
          exact ⟨.agg m.toArray, by simp [Instr.loadAt, Instr.sureAddr, loadVar, (isAgg_run w).1 h1, sizeOf_run h2, hrun], _, rfl, by simpa using hm⟩
        · rename_i h1
          obtain ⟨u, hu, hr⟩ := hc off v hv
          have hcell : w.cell? ⟨b, off, none⟩ = some u := by rw [cell_at hblk]; exact hu
          exact ⟨u, by simp [Instr.loadAt, Instr.sureAddr, loadVar, (isAgg_run w).2 h1, hcell], hr⟩
        · cases hv
      · cases hv
    · cases hv
  · cases hv
/-- Cells written from a place on, where there are some. -/
noncomputable def writeN : AVs → Nat → T AV → Option (T AV)
  | .nil, _, t => some t
  | .cons v l, off, t => match t.get off with
    | some _ => (t.put off v).seq fun t => writeN l (Nat.succ off) t
    | none => none
theorem writeN_cons (v : AV) (l : AVs) (off : Nat) (t : T AV) : writeN (.cons v l) off t = match t.get off with | some _ => writeN l (off + 1) (t.put off v) | none => none := by
  simp only [writeN, T.seq_eq]
theorem writeN_get : ∀ {l : AVs} {off : Nat} {t t' : T AV}, writeN l off t = some t' → ∀ k, (t'.get k = if off ≤ k ∧ k < off + l.len then l.get (k - off) else t.get k) ∧ (off ≤ k → k < off + l.len → (t.get k).isSome = true)
  | .nil, off, t, t', h, k => by
    simp only [writeN] at h; cases h
    have hl : AVs.nil.len = 0 := rfl
    exact ⟨by rw [if_neg (by omega)], fun h1 h2 => by omega⟩
  | .cons v l, off, t, t', h, k => by
    rw [writeN_cons] at h
    cases e : t.get off with
    | none => simp [e] at h
    | some x =>
      simp only [e] at h
      obtain ⟨h1, h2⟩ := writeN_get h k
      rw [T.get_put] at h1 h2
      have hl : (AVs.cons v l).len = l.len + 1 := rfl
      constructor
      · rw [h1]
        by_cases hk : k = off
        · subst hk
          rw [if_neg (by omega), if_pos rfl, if_pos (by omega)]
          simp [AVs.get]
        · rw [if_neg hk]
          by_cases h3 : off + 1 ≤ k ∧ k < off + 1 + l.len
          · rw [if_pos h3, if_pos (by omega)]
            obtain ⟨j, hj⟩ : ∃ j, k - off = j + 1 := ⟨k - off - 1, by omega⟩
            rw [hj, show k - (off + 1) = j by omega]; rfl
          · rw [if_neg h3, if_neg (by omega)]
      · intro h3 h4
        by_cases hk : k = off
        · subst hk; simp [e]
        · rw [if_neg hk] at h2
          exact h2 (by omega) (by omega)
theorem CRel.write {t t' : T AV} {c : Array Value} (hc : CRel ρ t c) {l : AVs} {m : List Value} (hm : VsRel ρ l m) {off : Nat} (h : writeN l off t = some t') :
    off + m.length ≤ c.size ∨ m = [] → CRel ρ t' (c.toList.take off ++ m ++ c.toList.drop (off + m.length)).toArray := by
  intro hle k v e
  obtain ⟨h1, h2⟩ := writeN_get h k
  have hlen := hm.len
  rw [h1] at e
  rcases hle with hle | rfl
  · by_cases hk : off ≤ k ∧ k < off + l.len
    · rw [if_pos hk] at e
      obtain ⟨u, hu, hr⟩ := hm.at e
      refine ⟨u, ?_, hr⟩
      rw [List.getElem?_toArray, List.append_assoc, List.getElem?_append_right (by simp; omega), List.getElem?_append_left (by simp; omega)]
      simp only [List.length_take, Array.length_toList]
      rw [Nat.min_eq_left (by omega)]; exact hu
    · rw [if_neg hk] at e
      obtain ⟨u, hu, hr⟩ := hc k v e
      refine ⟨u, ?_, hr⟩
      have hu' : c.toList[k]? = some u := by simpa using hu
      rw [List.getElem?_toArray]
      by_cases hlt : k < off
      · rw [List.append_assoc, List.getElem?_append_left (by simp; omega), List.getElem?_take_of_lt hlt]; exact hu'
      · rw [List.getElem?_append_right (by simp; omega), List.getElem?_drop]
        simp only [List.length_append, List.length_take, Array.length_toList]
        rw [Nat.min_eq_left (by omega)]
        rw [show off + m.length + (k - (off + m.length)) = k by omega]; exact hu'
  · have : l.len = 0 := by simpa using hlen
    rw [this] at e
    rw [if_neg (by omega)] at e
    obtain ⟨u, hu, hr⟩ := hc k v e
    exact ⟨u, by simpa using hu, hr⟩
def AO.setTr : AO → T AV → AO
  | .cells _ n e, t => .cells t n e
  | .grow _ n z e, t => .grow t n z e
  | .iter n d p, _ => .iter n d p
  | .ro t, _ => .ro t
  | .lp a b c d e f, _ => .lp a b c d e f
  | .mps l, _ => .mps l
theorem writeN_lt {t t' : T AV} {c : Array Value} (hc : CRel ρ t c) {l : AVs} {off : Nat} (h : writeN l off t = some t') : off + l.len ≤ c.size ∨ l.len = 0 := by
  by_cases h0 : l.len = 0
  · exact .inr h0
  · refine .inl ?_
    have := (writeN_get h (off + l.len - 1)).2 (by omega) (by omega)
    cases e : t.get (off + l.len - 1) with
    | none => simp [e] at this
    | some v =>
      obtain ⟨u, hu, _⟩ := hc _ v e
      have := (Array.getElem?_eq_some_iff.1 hu).1
      omega
/-- Cells written into a block that is known: the step. -/
theorem write_stp (hR : Rel ρ h.get w) {id : Nat} {o : AO} {t t' : T AV} (hid : h.get id = some o) (ht : o.tr = some t) {b C : Nat} (hb : ρ id = some (b, C)) {l : AVs} {m : List Value} (hm : VsRel ρ l m) (h1 : l.ones = true) {off : Nat}
    (hw : writeN l off t = some t') : ∃ w', (storeCells ⟨b, off, none⟩ m).run P w = .ok () w' ∧ Stp ρ ρ h.get (h.put id (o.setTr t')).get w w' nx nx := by
  obtain ⟨b', C', ob, k1, k2, k3⟩ := hR.has id o hid
  rw [hb] at k1; cases k1
  obtain ⟨c, rfl, hc⟩ := k3.tr ht
  have hlen := hm.len
  have hle := writeN_lt hc hw
  have hle' : off + m.length ≤ c.size ∨ m = [] := by
    rcases hle with h2 | h2
    · exact .inl (by omega)
    · exact .inr (List.eq_nil_of_length_eq_zero (by omega))
  have hc' := hc.write hm hw hle'
  have hone := hm.ones h1
  have hsz : (c.toList.take off ++ m ++ c.toList.drop (off + m.length)).toArray.size = c.size ∨ m = [] := by
    rcases hle' with h2 | h2
    · left; simp; omega
    · exact .inr h2
  have fin : ∀ c', c'.size = c.size → CRel ρ t' c' → ORel ρ C (o.setTr t') (.cells c' o.ty (0, 0)) := by
    intro c' hs hq
    cases o with
    | cells t0 n0 e =>
      obtain ⟨c0, e0, q1, q2⟩ := k3
      cases e0
      exact ⟨c', rfl, by rw [hs]; exact q1, hq⟩
    | grow t0 n z e =>
      obtain ⟨c0, e0, q1, q2, q3, q4, q5⟩ := k3
      cases e0
      simp only [AO.tr] at ht; cases ht
      refine ⟨c', rfl, q1, by rw [hs]; exact q2, q3, fun k => ?_, hq⟩
      obtain ⟨g1, g2⟩ := writeN_get hw k
      rw [← q4 k, g1]
      split
      · rename_i hk
        have := g2 hk.1 hk.2
        rw [this]
        simp only [iff_true]
        cases e : l.get (k - off) with
        | some _ => rfl
        | none =>
          exfalso
          have hh : ∀ (l : AVs) (j : Nat), j < l.len → l.get j ≠ none := by
            intro l
            induction l using AVs.rec (motive_1 := fun _ => True) with
            | nil => intro j hj; simp [AVs.len] at hj
            | cons a l _ ih =>
              intro j hj
              cases j with
              | zero => simp [AVs.get]
              | succ j => simp only [AVs.get]; exact ih j (by simp [AVs.len] at hj; omega)
            | _ => trivial
          exact hh l (k - off) (by omega) e
      · rfl
    | iter _ _ _ => simp [AO.tr] at ht
    | ro _ => simp [AO.tr] at ht
    | lp _ _ _ _ _ _ => simp [AO.tr] at ht
    | mps _ => simp [AO.tr] at ht
  by_cases hnil : m = []
  · subst hnil
    refine ⟨w, rfl, Stp.upd hR hid hb (o := .cells c o.ty (0, 0)) (fin c rfl ?_) w rfl rfl rfl rfl k2 (fun _ _ => rfl)⟩
    simpa using hc'
  · have hle2 : off + m.length ≤ c.size := hle'.resolve_right hnil
    have hst := run_storeCells_at P b off o.ty m 0 c w k2 (by simpa using hle2) hone
    simp only [Nat.add_zero] at hst
    refine ⟨_, hst, Stp.upd hR hid hb (o := .cells (c.toList.take off ++ m ++ c.toList.drop (off + m.length)).toArray o.ty (0, 0)) (fin _ (hsz.resolve_right hnil) hc') _ rfl rfl rfl (by simp [World.setRow]) ?_ ?_⟩
    · simp [World.setRow, Array.getElem?_modify, k2]
    · intro k hk
      simp only [World.setRow, Array.getElem?_modify]
      rw [if_neg (Ne.symm hk)]
end Go.Proofs.YtmhnnfponloihaaDoor
