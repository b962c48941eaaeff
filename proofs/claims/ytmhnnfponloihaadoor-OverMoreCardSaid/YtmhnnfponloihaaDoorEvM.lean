/- append, copy, make of a closed run. No Go program in this text. -/
import Derived.Test.YtmhnnfponloihaaDoorEvL
set_option linter.unusedSimpArgs false
set_option linter.unusedVariables false
namespace Go.Proofs.YtmhnnfponloihaaDoor
open Go.RowKit
variable {ρ : Map} {P : Program} {N : Nat} {sl : T AV} {a : Act} {h : T AO} {w : World} {nx : Nat}

/-- Small enough. -/
noncomputable def fitB (need bytes : Nat) : Bool := Nat.ble (Nat.mul (Nat.mul 2 need) bytes) 281474976710656 && Nat.ble need 9223372036854775807
noncomputable def evAppend (P : Program) (h : T AO) (nx : Nat) (t u : TypeId) (s x : AV) : R :=
  match appTy P t u with
  | some (e, z, by_, _) => match evNews h z x with
    | some (n, l) => bif (match x with | .s _ _ => Nat.beq z 1 | _ => true) then match s with
      | .ns => bif Nat.beq n 0 then .ok .ns h nx else bif fitB n by_ then (h.put nx (.grow (ofA l 0 .nil) (Nat.mul n z) z e)).seq fun h => .ok (.gs nx n) h (Nat.succ nx) else .bad
      | .sl id off len cap => match h.get id with
        | some o => match o.tr with
          | some tr => bif Nat.ble (Nat.add len n) cap then
              match (bif l.ones then writeN l (Nat.add off (Nat.mul len z)) tr else none) with
              | some t' => (h.put id (o.setTr t')).seq fun h => .ok (.sl id off (Nat.add len n) cap) h nx
              | none => .bad
            else bif fitB (Nat.add len n) by_ then match readN tr (Nat.mul len z) off with
              | some old => (h.put nx (.grow (ofA (old.app l) 0 .nil) (Nat.mul (Nat.add len n) z) z e)).seq fun h => .ok (.gs nx (Nat.add len n)) h (Nat.succ nx)
              | none => .bad
            else .bad
          | none => .bad
        | none => .bad
      | .gs id len => match h.get id with
        | some (.grow tr nk z' e') => bif Nat.beq z' z && l.ones then
            bif Nat.ble (Nat.mul (Nat.add len n) z) nk then
              match writeN l (Nat.mul len z) tr with
              | some t' => (h.put id (.grow t' nk z' e')).seq fun h => .ok (.gs id (Nat.add len n)) h nx
              | none => .bad
            else bif Nat.ble (Nat.mul len z) nk && (Nat.beq e' e && fitB (Nat.add len n) by_) then
              ((h.del id).put nx (.grow (ofA l (Nat.mul len z) tr) (Nat.mul (Nat.add len n) z) z e)).seq fun h => .ok (.gs nx (Nat.add len n)) h (Nat.succ nx)
            else .bad
          else .bad
        | _ => .bad
      | _ => .bad
      else .bad
    | none => .bad
  | none => .bad
theorem fitB_is {n b : Nat} (h : fitB n b = true) : 2 * n * b ≤ 281474976710656 ∧ n ≤ 9223372036854775807 := by
  unfold fitB at h
  rw [Bool.and_eq_true, Nat.ble_eq, Nat.ble_eq] at h; exact h
/-- A new row that may grow. -/
theorem grow_stp (hR : Rel ρ h.get w) (hf : ρ nx = none) (e : TypeId) {l : AVs} {m : List Value} (hm : VsRel ρ l m) {n z C : Nat} (hz : 0 < z) (hl : l.len = n * z) (hC : n ≤ C) (c : Array Value) (hs : c.size = C * z - n * z) (w' : World)
    (hos : w'.os = w.os) (ht : w'.tape = w.tape) (hout : w'.output = w.output) (hh : w'.heap = w.heap.push (.cells (m.toArray ++ c) e)) :
    Stp ρ (ρ.set nx (w.heap.size, C)) h.get (h.put nx (.grow (ofA l 0 .nil) (n * z) z e)).get w w' nx (nx + 1) := by
  have hml := hm.len
  have hmul : n * z ≤ C * z := Nat.mul_le_mul_right _ hC
  have ho : ORel (ρ.set nx (w.heap.size, C)) C (.grow (ofA l 0 .nil) (n * z) z e) (.cells (m.toArray ++ c) e (0, 0)) := by
    refine ⟨m.toArray ++ c, rfl, hz, by simp; omega, hmul, fun k => ?_, CRel.of_avs (hm.mono' (Map.set_le hf)) fun k hk => by simp [Array.getElem?_append, hk]⟩
    rw [ofA_get, T.get_nil]
    split
    · rename_i hk
      have := avs_some l (k - 0) (by omega)
      simp only [this, true_iff]; omega
    · simp only [Option.isSome_none, Bool.false_eq_true, false_iff]; omega
  exact Stp.new_ hR hf (.cells (m.toArray ++ c) e) _ C ho w' hos ht hout hh
/-- A block goes on under another name. -/
theorem move_stp (hR : Rel ρ h.get w) (hf : ρ nx = none) {id : Nat} {a0 a1 : AO} {b C D : Nat} {o : Obj} (hid : h.get id = some a0) (hr : ρ id = some (b, C)) (ho : ORel (ρ.set nx (b, D)) D a1 o) (w' : World)
    (hos : w'.os = w.os) (ht : w'.tape = w.tape) (hout : w'.output = w.output) (hs : w'.heap.size = w.heap.size) (hb : w'.heap[b]? = some o) (hk : ∀ k, k ≠ b → w'.heap[k]? = w.heap[k]?) :
    Stp ρ (ρ.set nx (b, D)) h.get ((h.del id).put nx a1).get w w' nx (nx + 1) := by
  have hle := Map.set_le (x := (b, D)) hf
  have hnid : id ≠ nx := fun e => by subst e; rw [hr] at hf; cases hf
  have own : ∀ j o1 b1 C1, h.get j = some o1 → ρ j = some (b1, C1) → j ≠ id → b1 ≠ b := by
    intro j o1 b1 C1 e1 k1 hj hbb; subst hbb
    exact hj (hR.inj j id o1 a0 b1 C1 C e1 hid k1 hr)
  refine ⟨⟨?_, ?_⟩, hle, ?_, Nat.le_succ _, hos, ht, hout, by omega, ?_, ?_⟩
  · intro j o' e
    rw [T.get_put, T.get_del] at e
    by_cases hj : j = nx
    · subst hj
      rw [if_pos rfl] at e; cases e
      exact ⟨b, D, o, set_self _ _ _, hb, ho⟩
    · rw [if_neg hj] at e
      by_cases hji : j = id
      · rw [if_pos hji] at e; cases e
      · rw [if_neg hji] at e
        obtain ⟨b', C', ob, h1, h2, h3⟩ := hR.has j o' e
        exact ⟨b', C', ob, hle _ _ h1, by rw [hk b' (own j o' b' C' e h1 hji)]; exact h2, h3.mono hle⟩
  · intro i j o1 o2 b1 C1 D1 e1 e2 k1 k2
    rw [T.get_put, T.get_del] at e1 e2
    unfold Map.set at k1 k2
    by_cases hi : i = nx <;> by_cases hj : j = nx
    · exact hi.trans hj.symm
    · rw [if_pos hi] at k1; rw [if_neg hj] at e2 k2; cases k1
      by_cases hji : j = id
      · rw [if_pos hji] at e2; cases e2
      · rw [if_neg hji] at e2; exact absurd rfl (own j o2 b D1 e2 k2 hji)
    · rw [if_neg hi] at e1 k1; rw [if_pos hj] at k2; cases k2
      by_cases hii : i = id
      · rw [if_pos hii] at e1; cases e1
      · rw [if_neg hii] at e1; exact absurd rfl (own i o1 b C1 e1 k1 hii)
    · rw [if_neg hi] at e1 k1; rw [if_neg hj] at e2 k2
      by_cases hii : i = id
      · rw [if_pos hii] at e1; cases e1
      · by_cases hji : j = id
        · rw [if_pos hji] at e2; cases e2
        · rw [if_neg hii] at e1; rw [if_neg hji] at e2
          exact hR.inj i j o1 o2 b1 C1 D1 e1 e2 k1 k2
  · intro j hj
    unfold Map.set
    rw [if_neg (by omega)]
  · intro k hkl hn
    exact hk k fun e => hn id a0 C hid (e ▸ hr)
  · intro j o1 b1 C1 e1 k1
    rw [T.get_put, T.get_del] at e1
    unfold Map.set at k1
    by_cases hj : j = nx
    · rw [if_pos hj] at k1; cases k1
      exact .inr ⟨id, a0, C, hid, hr⟩
    · rw [if_neg hj] at e1 k1
      by_cases hji : j = id
      · rw [if_pos hji] at e1; cases e1
      · rw [if_neg hji] at e1; exact .inr ⟨j, o1, C1, e1, k1⟩
/-- A row's first cells, and those behind them. -/
theorem CRel.more {tr : T AV} {cc c' : Array Value} (hc : CRel ρ tr cc) {l : AVs} {m : List Value} (hm : VsRel ρ l m) {L nk : Nat} (hk : ∀ k, (tr.get k).isSome = true → k < nk) (hle : nk ≤ L + m.length)
    (h1 : ∀ k, k < L → c'[k]? = cc[k]?) (h2 : ∀ j, j < m.length → c'[L + j]? = m[j]?) : CRel ρ (ofA l L tr) c' := by
  intro k v e
  have hml := hm.len
  rw [ofA_get] at e
  split at e
  · rename_i hkk
    obtain ⟨u, hu, hr⟩ := hm.at e
    refine ⟨u, ?_, hr⟩
    have := h2 (k - L) (by omega)
    rw [show L + (k - L) = k by omega] at this
    rw [this]; exact hu
  · rename_i hkk
    obtain ⟨u, hu, hr⟩ := hc k v e
    have := hk k (by rw [e]; rfl)
    exact ⟨u, by rw [h1 k (by omega)]; exact hu, hr⟩
theorem evAppend_run (hR : Rel ρ h.get w) {t u ty : TypeId} {s x : AV} {s' x' : Value} (hs : VRel ρ s s') (hx : VRel ρ x x') {r : AV} {h' : T AO} {nx' : Nat} (e : evAppend P h nx t u s x = .ok r h' nx') (hf : Fr ρ nx nx') :
    ∃ ρ' v w', (Builtin.append_ #[t, u] ty #[s', x']).run P w = .ok v w' ∧ VRel ρ' r v ∧ Stp ρ ρ' h.get h'.get w w' nx nx' := by
  unfold evAppend at e
  split at e
  · rename_i el z by_ zv hT
    have hT := appTy_is hT
    split at e
    · rename_i n l hl
      obtain ⟨hxz, e2⟩ := bif_ok e
      clear e; have e := e2; clear e2
      obtain ⟨m, hm, hmr, hlen, hfirst⟩ := evNews_run (P := P) hR hx hl (by rintro ⟨k, d, rfl⟩; simpa [Nat.beq_eq] using hxz)
      have hll := hmr.len
      split at e
      · cases hs
        by_cases hn : n = 0
        · subst hn
          rw [beq_t rfl, cond_true] at e; cases e
          exact ⟨ρ, _, w, append_fit hT (base := none) hlen (hfirst w rfl) (by omega) rfl, rfl, Stp.refl hR⟩
        · rw [beq_f hn, cond_false] at e
          obtain ⟨hfit, e⟩ := bif_ok e
          rw [T.seq_eq] at e; cases e
          obtain ⟨f1, f2⟩ := fitB_is hfit
          have hf' : ρ nx = none := hf nx (Nat.le_refl _) (Nat.lt_succ_self _)
          obtain ⟨C, c, hC, hcs, hrun⟩ := append_grow (ty := ty) hT (base := none) (sLen := 0) (sCap := 0) (old := []) hlen hfirst (fun w' _ => by simp [Builtin.firstCells]) (by omega) (by simpa using f1) (by simpa using f2)
          refine ⟨_, _, _, hrun, ⟨w.heap.size, C, set_self _ _ _, ?_, ?_⟩, grow_stp hR hf' el hmr hT.pos (by omega) (by omega) c (by simpa using hcs) _ rfl rfl rfl ?_⟩
          · simp
          · omega
          · show w.heap.push _ = _; simp
      · rename_i id off len cap
        obtain ⟨b, C, hb, rfl⟩ := hs
        split at e
        · rename_i o hid
          split at e
          · rename_i tr htr
            by_cases hroom : len + n ≤ cap
            · have hq : Nat.ble (Nat.add len n) cap = true := by rw [Nat.ble_eq]; exact hroom
              rw [hq, cond_true] at e
              split at e
              · rename_i t' ht'
                obtain ⟨h1, ht'⟩ := bif_some' ht'
                rw [T.seq_eq] at e; cases e
                obtain ⟨w', hst, hstp⟩ := write_stp (P := P) (nx := nx) hR hid htr hb hmr h1 ht'
                refine ⟨ρ, _, w', append_fit hT (base := some ⟨b, off, none⟩) hlen (hfirst w rfl) hroom (by simp only [addr_add]; exact hst), ⟨b, C, hb, rfl⟩, hstp⟩
              · cases e
            · have hq : Nat.ble (Nat.add len n) cap = false := by
                rw [ble_eq]; exact decide_eq_false hroom
              rw [hq, cond_false] at e
              obtain ⟨hfit, e2⟩ := bif_ok e
              clear e; have e := e2; clear e2
              obtain ⟨f1, f2⟩ := fitB_is hfit
              split at e
              · rename_i old hold
                rw [T.seq_eq] at e; cases e
                have hf' : ρ nx = none := hf nx (Nat.le_refl _) (Nat.lt_succ_self _)
                obtain ⟨cc, hblk, hcr⟩ := rel_block hR hid htr hb
                obtain ⟨om, hom, homr, hocell, _⟩ := readN_run (P := P) hblk hcr hold
                obtain ⟨C2, c, hC, hcs, hrun⟩ := append_grow (ty := ty) hT (base := some ⟨b, off, none⟩) (sLen := len) (sCap := cap) (old := om) hlen hfirst (fun w' hw => by
                  have := loadCells_same (P := P) hw hocell
                  rw [hom] at this
                  simp only [Builtin.firstCells]; exact this) (by omega) f1 f2
                have hnz : (old.app l).len = (len + n) * z := by
                  have := (homr.app hmr).len
                  rw [this, List.length_append, hom, hm, Nat.add_mul]; rfl
                refine ⟨_, _, _, hrun, ⟨w.heap.size, C2, set_self _ _ _, rfl, hC⟩, grow_stp hR hf' el (homr.app hmr) hT.pos hnz hC c hcs _ rfl rfl rfl ?_⟩
                show w.heap.push _ = _; simp
              · cases e
          · cases e
        · cases e
      · rename_i id len
        obtain ⟨b, C, hb, rfl, hlC⟩ := hs
        split at e
        · rename_i tr nk z' e' hid
          obtain ⟨h1, e2⟩ := bif_ok e
          clear e; have e := e2; clear e2
          rw [Bool.and_eq_true, Nat.beq_eq] at h1
          obtain ⟨hz', hones⟩ := h1
          have hz2 := hz'.symm; clear hz'; subst hz2
          obtain ⟨b', C', ob, k1, k2, k3⟩ := hR.has id _ hid
          rw [hb] at k1; cases k1
          obtain ⟨cc, rfl, q1, q2, q3, q4, q5⟩ := k3
          by_cases hroom : (len + n) * z ≤ nk
          · have hq : Nat.ble (Nat.mul (Nat.add len n) z) nk = true := by rw [Nat.ble_eq]; exact hroom
            rw [hq, cond_true] at e
            split at e
            · rename_i t' ht'
              rw [T.seq_eq] at e; cases e
              obtain ⟨w', hst, hstp⟩ := write_stp (P := P) (nx := nx) hR hid (o := .grow tr nk z e') rfl hb hmr hones ht'
              have hfitC : len + n ≤ C := Nat.le_of_mul_le_mul_right (Nat.le_trans hroom q3) q1
              refine ⟨ρ, _, w', append_fit hT (base := some ⟨b, 0, none⟩) hlen (hfirst w rfl) hfitC (by simp only [addr_add, Nat.zero_add]; exact hst), ⟨b, C, hb, rfl, hfitC⟩, hstp⟩
            · cases e
          · have hq : Nat.ble (Nat.mul (Nat.add len n) z) nk = false := by
              rw [ble_eq]; exact decide_eq_false hroom
            rw [hq, cond_false] at e
            obtain ⟨h2, e⟩ := bif_ok e
            rw [Bool.and_eq_true, Bool.and_eq_true, Nat.ble_eq, Nat.beq_eq] at h2
            obtain ⟨hle, rfl, hfit⟩ := h2
            obtain ⟨f1, f2⟩ := fitB_is hfit
            rw [T.seq_eq] at e; cases e
            have hf' : ρ nx = none := hf nx (Nat.le_refl _) (Nat.lt_succ_self _)
            have hmul : len * z ≤ C * z := Nat.mul_le_mul_right _ hlC
            have hlz : l.len = n * z := by rw [hll, hm]
            have hL : len * z + m.length = (len + n) * z := by rw [hm, Nat.add_mul]
            have hnk : nk ≤ len * z + m.length := by omega
            have hsome : ∀ k, ((ofA l (len * z) tr).get k).isSome = true ↔ k < (len + n) * z := by
              intro k
              rw [ofA_get]
              have hle' : len * z ≤ nk := hle
              split
              · rename_i hk
                have := avs_some l (k - len * z) (by omega)
                simp only [this, true_iff]; omega
              · rename_i hk
                rw [q4 k]; omega
            by_cases hin : len + n ≤ C
            · have hin' : (len + n) * z ≤ C * z := Nat.mul_le_mul_right _ hin
              have hst := run_storeCells_at P b (len * z) e' m 0 cc w k2 (by simp; omega) (hmr.ones hones)
              simp only [Nat.add_zero] at hst
              refine ⟨_, _, w.setRow b (cc.toList.take (len * z) ++ m ++ cc.toList.drop (len * z + m.length)).toArray, append_fit hT (base := some ⟨b, 0, none⟩) hlen (hfirst w rfl) hin (by simp only [addr_add, Nat.zero_add]; exact hst), ⟨b, C, set_self _ _ _, rfl, hin⟩,
                move_stp hR hf' hid hb (o := .cells (cc.toList.take (len * z) ++ m ++ cc.toList.drop (len * z + m.length)).toArray e' (0, 0)) ?_ _ rfl rfl rfl (by simp [World.setRow]) ?_ ?_⟩
              · refine ⟨_, rfl, q1, by simp; omega, hin', hsome, CRel.more (L := len * z) (q5.mono (Map.set_le hf')) (hmr.mono' (Map.set_le hf')) (fun k hk => (q4 k).1 hk) hnk ?_ ?_⟩
                · intro k hk
                  simp only [List.getElem?_toArray]
                  rw [List.append_assoc, List.getElem?_append_left (by simp; omega), List.getElem?_take_of_lt hk]; simp
                · intro j hj
                  simp only [List.getElem?_toArray]
                  rw [List.append_assoc, List.getElem?_append_right (by simp; omega), List.getElem?_append_left (by simp; omega)]
                  congr 1; simp; omega
              · simp [World.setRow, Array.getElem?_modify, k2]
              · intro k hk
                simp only [World.setRow, Array.getElem?_modify]
                rw [if_neg (Ne.symm hk)]
            · obtain ⟨C2, c, hC, hcs, hrun⟩ := append_grow (ty := ty) hT (base := some ⟨b, 0, none⟩) (sLen := len) (sCap := C) (old := cc.toList.take (len * z)) hlen hfirst (fun w' hw => by
                have hcell : ∀ j u, (cc.toList.take (len * z))[j]? = some u → w.cell? ((⟨b, 0, none⟩ : Addr).add j) = some u := by
                  intro j u hj
                  rw [addr_add, cell_at k2]
                  have hjn : j < len * z := by have := (List.getElem?_eq_some_iff.1 hj).1; simp at this; omega
                  rw [List.getElem?_take_of_lt hjn] at hj
                  simpa using hj
                have := loadCells_same (P := P) hw hcell
                have hlen' : (cc.toList.take (len * z)).length = len * z := by simp; omega
                rw [hlen'] at this
                simp only [Builtin.firstCells]; exact this) (by omega) f1 f2
              have hd : Stp ρ ρ h.get (h.del id).get w w nx nx := Stp.del hR hid hb w rfl rfl rfl rfl (fun _ _ => rfl)
              refine ⟨_, _, _, hrun, ⟨w.heap.size, C2, set_self _ _ _, rfl, hC⟩, hd.trans (Stp.new_ hd.rel hf' (.cells ((cc.toList.take (len * z)).toArray ++ m.toArray ++ c) e') _ C2 ?_ _ rfl rfl rfl (by show w.heap.push _ = _; simp))⟩
              have hmul2 : (len + n) * z ≤ C2 * z := Nat.mul_le_mul_right _ hC
              refine ⟨_, rfl, q1, by simp; omega, hmul2, hsome, CRel.more (L := len * z) (q5.mono (Map.set_le hf')) (hmr.mono' (Map.set_le hf')) (fun k hk => (q4 k).1 hk) hnk ?_ ?_⟩
              · intro k hk
                rw [Array.append_assoc, Array.getElem?_append, if_pos (by simp; omega)]
                simp [hk]
              · intro j hj
                rw [Array.append_assoc, Array.getElem?_append, if_neg (by simp; omega), Array.getElem?_append, if_pos (by simp; omega)]
                have : len * z + j - (cc.toList.take (len * z)).toArray.size = j := by simp; omega
                rw [this]; simp
        · cases e
      · cases e
    · cases e
  · cases e
end Go.Proofs.YtmhnnfponloihaaDoor
