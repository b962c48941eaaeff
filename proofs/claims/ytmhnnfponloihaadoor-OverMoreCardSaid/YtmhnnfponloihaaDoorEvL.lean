/- Rows that grow, rows that are copied. No Go program in this text. -/
import Derived.Test.YtmhnnfponloihaaDoorEvK
import Derived.Laws.AppendOwn
set_option linter.unusedSimpArgs false
set_option linter.unusedVariables false
namespace Go.Proofs.YtmhnnfponloihaaDoor
open Go.RowKit
variable {ρ : Map} {P : Program} {N : Nat} {sl : T AV} {a : Act} {h : T AO} {w : World} {nx : Nat}

def bytesAV : Nat → Nat → AVs
  | 0, _ => .nil
  | n + 1, d => .cons (.i .u8 (.ofNat (d % 256))) (bytesAV n (d / 256))
theorem bytesAV_rel : ∀ n d, VsRel ρ (bytesAV n d) ((bytesOf n d).map fun b => Value.int .u8 b.toNat)
  | 0, _ => rfl
  | n + 1, d => by
    refine ⟨_, _, rfl, ?_, bytesAV_rel n (d / 256)⟩
    simp only [VRel]
    rw [ofNat_toNat (by omega)]; rfl
/-- What a row is given: how many elements, their cells. -/
noncomputable def evNews (h : T AO) (z : Nat) (x : AV) : Option (Nat × AVs) :=
  match x with
  | .ns => some (0, .nil)
  | .s n d => some (n, bytesAV n d)
  | .sl id off len _ => match h.get id with
    | some o => match o.rd with | some t => (match readN t (Nat.mul len z) off with | some l => some (len, l) | none => none) | none => none
    | none => none
  | .su id off len => match h.get id with
    | some o => match o.rd with | some t => (match readN t (Nat.mul len z) off with | some l => (bif Nat.ble 1 len then some (len, l) else none) | none => none) | none => none
    | none => none
  | .gs id len => match h.get id with
    | some o => match o.rd with | some t => (match readN t (Nat.mul len z) 0 with | some l => some (len, l) | none => none) | none => none
    | none => none
  | _ => none
theorem loadCells_same {w w' : World} (hw : w'.heap = w.heap) {ad : Addr} {m : List Value} (hc : ∀ j u, m[j]? = some u → w.cell? (ad.add j) = some u) : (loadCells ad m.length).run P w' = .ok m.toArray w' :=
  run_loadCells_list (P := P) w' ad m fun j u e => by have := hc j u e; simpa [World.cell?, hw] using this
theorem evNews_run (hR : Rel ρ h.get w) {z : Nat} {x : AV} {x' : Value} (hx : VRel ρ x x') {n : Nat} {l : AVs} (e : evNews h z x = some (n, l)) (hz : (∃ k d, x = .s k d) → z = 1) :
    ∃ m : List Value, m.length = n * z ∧ VsRel ρ l m ∧ (Builtin.lenOf x').run P w = .ok n w ∧ ∀ w', w'.heap = w.heap → (Builtin.firstCells z n x').run P w' = .ok m.toArray w' := by
  have hb : ∀ {id off len : Nat} {b C c : Nat} {l : AVs} {t : T AV} {o : AO}, ρ id = some (b, C) → h.get id = some o → o.rd = some t → readN t (len * z) off = some l → ∃ m : List Value, m.length = len * z ∧ VsRel ρ l m ∧ ∀ w', w'.heap = w.heap →
      (Builtin.firstCells z len (.slice (some ⟨b, off, none⟩) len c)).run P w' = .ok m.toArray w' := by
    intro id off len b C c l t o hr hid ht hl
    obtain ⟨cc, _, _, hblk, hc⟩ := rel_read hR hid ht hr
    obtain ⟨m, hm, hmr, hcell, _⟩ := readN_run (P := P) hblk hc hl
    refine ⟨m, hm, hmr, fun w' hw => ?_⟩
    have := loadCells_same (P := P) hw hcell
    rw [hm] at this
    simp only [Builtin.firstCells]; exact this
  unfold evNews at e
  split at e
  · cases e; cases hx
    exact ⟨[], by simp, rfl, rfl, fun w' _ => by simp [Builtin.firstCells]⟩
  · rename_i k d
    cases e
    have hz1 := hz ⟨_, _, rfl⟩
    subst hz1
    obtain ⟨s, rfl, hs⟩ := hx
    refine ⟨(bytesOf n d).map fun b => Value.int .u8 b.toNat, by simp [bytesOf_length], bytesAV_rel n d, by simp [Builtin.lenOf, hs.size], fun w' _ => ?_⟩
    have hex : (s.extract 0 n).data = s.data := by
      rw [ByteArray.data_extract, ← hs.size]
      exact Array.extract_eq_self_of_le (Nat.le_refl _)
    simp only [Builtin.firstCells, hex, Sem.run_pure]
    rw [← hs.by_]; congr 1
    apply Array.ext'
    simp
  · rename_i id off len cap
    split at e
    · rename_i o hid
      split at e
      · rename_i t ht
        split at e <;> cases e
        rename_i hl
        obtain ⟨b, C, hr, rfl⟩ := hx
        obtain ⟨m, h1, h2, h3⟩ := hb (c := cap) hr hid ht hl
        exact ⟨m, h1, h2, rfl, h3⟩
      · cases e
    · cases e
  · rename_i id off len
    split at e
    · rename_i o hid
      split at e
      · rename_i t ht
        split at e
        · rename_i l' hl
          obtain ⟨hp, e⟩ := bif_some e
          cases e
          rw [Nat.ble_eq] at hp
          obtain ⟨b, C, oo, c, hr, rfl, _, ho⟩ := hx
          have := ho (by omega); subst this
          obtain ⟨m, h1, h2, h3⟩ := hb (c := c) hr hid ht hl
          exact ⟨m, h1, h2, rfl, h3⟩
        · cases e
      · cases e
    · cases e
  · rename_i id len
    split at e
    · rename_i o hid
      split at e
      · rename_i t ht
        split at e <;> cases e
        rename_i hl
        obtain ⟨b, C, hr, rfl, _⟩ := hx
        obtain ⟨m, h1, h2, h3⟩ := hb (c := C) hr hid ht hl
        exact ⟨m, h1, h2, rfl, h3⟩
      · cases e
    · cases e
  · cases e
/-- A type that grows: its elements' type, cells, bytes, zero; whether a text is given. -/
def appTy (P : Program) (t u : TypeId) : Option (TypeId × Nat × Nat × AV) :=
  match rowTy P t, P.underlying u with
  | some (e, n, z), some (.slice _) => match P.info? e with | some i => some (e, n, i.bytes, z) | none => none
  | some (e, n, z), some .string => bif Nat.beq n 1 then match P.info? e with | some i => some (e, n, i.bytes, z) | none => none else none
  | _, _ => none
structure AppTy (P : Program) (t u e : TypeId) (n b : Nat) (z : AV) : Prop where
  ht : P.underlying t = some (.slice e)
  hz : ∃ (i : TypeInfo) (z' : Value), P.info? e = some i ∧ i.size = n ∧ i.bytes = b ∧ i.zero = some z' ∧ z'.cells.size = n
  pos : 0 < n
  hu : (∃ d, P.underlying u = some (.slice d)) ∨ P.underlying u = some .string
  one : P.underlying u = some .string → n = 1
theorem appTy_is {t u e : TypeId} {n b : Nat} {z : AV} (h : appTy P t u = some (e, n, b, z)) : AppTy P t u e n b z := by
  have key : ∀ {e n z}, rowTy P t = some (e, n, z) → ∀ i, P.info? e = some i → P.underlying t = some (.slice e) ∧ 0 < n ∧ ∃ z' : Value, i.size = n ∧ i.zero = some z' ∧ z'.cells.size = n := by
    intro e n z hr i hi
    obtain ⟨h1, h2, h3, h4, h5⟩ := rowTy_is hr
    unfold sizeTy at h2; unfold zeroTy at h3
    simp only [hi] at h2 h3
    cases g : i.zero with
    | none => simp [g] at h3
    | some z' =>
      simp only [g] at h3
      have := (ofV_rel (ρ := fun _ => none) h3).cells.len
      rw [h4] at this
      exact ⟨h1, h5, z', by simpa using h2, rfl, by simpa using this.symm⟩
  unfold appTy at h
  split at h
  · rename_i e' n' z' d hr hu
    split at h <;> cases h
    rename_i i hi
    obtain ⟨k1, k2, zz, k3, k4, k5⟩ := key hr i hi
    exact ⟨k1, ⟨i, zz, hi, k3, rfl, k4, k5⟩, k2, .inl ⟨_, hu⟩, fun e => by rw [hu] at e; cases e⟩
  · rename_i e' n' z' hr hu
    obtain ⟨h1, h⟩ := bif_some' h
    rw [Nat.beq_eq] at h1
    split at h <;> cases h
    rename_i i hi
    obtain ⟨k1, k2, zz, k3, k4, k5⟩ := key hr i hi
    exact ⟨k1, ⟨i, zz, hi, k3, rfl, k4, k5⟩, k2, .inr hu, fun _ => h1⟩
  · cases h
theorem append_fit {t u ty e : TypeId} {z b : Nat} {zv : AV} (hT : AppTy P t u e z b zv) {base : Option Addr} {sLen sCap n : Nat} {x : Value} {m : List Value} (hl : (Builtin.lenOf x).run P w = .ok n w)
    (hf : (Builtin.firstCells z n x).run P w = .ok m.toArray w) (hn : sLen + n ≤ sCap) {w' : World} (hs : match base with | some ad => (storeCells (ad.add (sLen * z)) m).run P w = .ok () w' | none => w' = w) :
    (Builtin.append_ #[t, u] ty #[.slice base sLen sCap, x]).run P w = .ok (.slice base (sLen + n) sCap) w' := by
  obtain ⟨i, z', hi, h1, h2, h3, h4⟩ := hT.hz
  subst h1
  cases base with
  | none =>
    subst hs
    rcases hT.hu with ⟨d, hu⟩ | hu <;> simp [Builtin.append_, run_underlying hT.ht, run_underlying hu, sizeOf, typeInfo, hi, hl, hn, hf]
  | some ad => rcases hT.hu with ⟨d, hu⟩ | hu <;> simp [Builtin.append_, run_underlying hT.ht, run_underlying hu, sizeOf, typeInfo, hi, hl, hn, hf, hs]
theorem append_grow {t u ty e : TypeId} {z b : Nat} {zv : AV} (hT : AppTy P t u e z b zv) {base : Option Addr} {sLen sCap n : Nat} {x : Value} {m old : List Value} (hl : (Builtin.lenOf x).run P w = .ok n w)
    (hf : ∀ w', w'.heap = w.heap → (Builtin.firstCells z n x).run P w' = .ok m.toArray w') (ho : ∀ w', w'.heap = w.heap → (Builtin.firstCells z sLen (.slice base sLen sCap)).run P w' = .ok old.toArray w') (hn : sCap < sLen + n)
    (hb : 2 * (sLen + n) * b ≤ 281474976710656) (h63 : sLen + n ≤ 9223372036854775807) :
    ∃ C c, sLen + n ≤ C ∧ c.size = C * z - (sLen + n) * z ∧ (Builtin.append_ #[t, u] ty #[.slice base sLen sCap, x]).run P w = .ok (.slice (some ⟨w.heap.size, 0, none⟩) (sLen + n) C) (w.drew.alloc (.cells (old.toArray ++ m.toArray ++ c) e)) := by
  obtain ⟨i, z', hi, h1, h2, h3, h4⟩ := hT.hz
  subst h1; subst h2
  have hcap : Builtin.nextslicecap (sLen + n) sCap * i.bytes ≤ 281474976710656 := Nat.le_trans (Nat.mul_le_mul_right _ (nextslicecap_le hn)) hb
  have hnn : ¬ (sLen + n ≤ sCap) := by omega
  have h63' : ¬ (9223372036854775807 < ((sLen : Int) + (n : Int))) := by omega
  have h48' : ¬ (281474976710656 < Builtin.nextslicecap (sLen + n) sCap * i.bytes) := by omega
  refine ⟨grownCap w (sLen + n) sCap e, Builtin.zeroCells z'.cells (grownCap w (sLen + n) sCap e - (sLen + n)), grownCap_ge _ _ _ _, ?_, ?_⟩
  · rw [size_zeroCells, h4, Nat.sub_mul]
  · have hf' := hf w.drew rfl
    have ho' := ho w.drew rfl
    rcases hT.hu with ⟨d, hu⟩ | hu <;> simp [Builtin.append_, run_underlying hT.ht, run_underlying hu, sizeOf, typeInfo, zeroValue, hi, h3, hl, hnn, h63', h48', Question.forced, hf', ho', newRow, grownCap] <;> (congr 2; apply Array.ext'; simp [List.append_assoc])
end Go.Proofs.YtmhnnfponloihaaDoor
