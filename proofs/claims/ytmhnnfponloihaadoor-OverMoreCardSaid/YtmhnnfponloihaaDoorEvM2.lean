/- A text gone over rune by rune. No Go program in this text. -/
import Derived.Test.YtmhnnfponloihaaDoorEvM
set_option linter.unusedSimpArgs false
set_option linter.unusedVariables false
namespace Go.Proofs.YtmhnnfponloihaaDoor
open Go.RowKit
variable {ρ : Map} {P : Program} {N : Nat} {sl : T AV} {a : Act} {h : T AO} {w : World} {nx : Nat}

noncomputable def ltN (a b : Nat) : Bool := Nat.ble (Nat.succ a) b
theorem ltN_eq (a b : Nat) : ltN a b = decide (a < b) := ble_eq _ _
/-- The rune at a place of a text that is a number, and its width. -/
noncomputable def decN (n d i : Nat) : Nat × Nat :=
  let b0 := byteAt d i
  let b1 := byteAt d (i + 1)
  let b2 := byteAt d (i + 2)
  let b3 := byteAt d (i + 3)
  let c (k b : Nat) : Bool := ltN (i + k) n && Nat.beq (b / 64) 2
  bif Nat.ble 128 b0 then
    bif Nat.beq (b0 / 32) 6 && c 1 b1 then
      let c := (b0 % 32) * 64 + b1 % 64
      bif Nat.ble 128 c then (c, 2) else (65533, 1)
    else bif Nat.beq (b0 / 16) 14 && (c 1 b1 && c 2 b2) then
      let c := (b0 % 16) * 4096 + (b1 % 64) * 64 + b2 % 64
      bif Nat.ble 2048 c && Utf8.valid c then (c, 3) else (65533, 1)
    else bif Nat.beq (b0 / 8) 30 && (c 1 b1 && (c 2 b2 && c 3 b3)) then
      let c := (b0 % 8) * 262144 + (b1 % 64) * 4096 + (b2 % 64) * 64 + b3 % 64
      bif Nat.ble 65536 c && Utf8.valid c then (c, 4) else (65533, 1)
    else (65533, 1)
  else (b0, 1)
theorem SR.get {n d : Nat} {s : ByteArray} (h : SR n d s) (i : Nat) : (s.get! i).toNat = byteAt d i := by
  by_cases hi : i < n
  · have h1 := h.at i hi
    have h2 : s.get! i = UInt8.ofNat (byteAt d i) := by
      have hs := h.size
      have hlt : i < s.size := by omega
      have : s[i]? = some s[i] := by simp [hlt]
      rw [this] at h1
      have h3 : s[i] = UInt8.ofNat (byteAt d i) := by simpa using h1
      rw [← h3]
      have : s.get! i = s.data[i]! := rfl
      rw [this]
      have hd : i < s.data.size := hlt
      simp only [getElem!_pos, hd]; rfl
    rw [h2, ofNat_toNat (byteAt_lt d i)]
  · have hs := h.size
    have h1 : s.get! i = 0 := by
      have : s.get! i = s.data[i]! := rfl
      rw [this]
      have hd : ¬ i < s.data.size := by show ¬ i < s.size; omega
      rw [getElem!_neg s.data i hd]; rfl
    rw [h1, byteAt_eq]
    have : d < 256 ^ i := Nat.lt_of_lt_of_le h.lt (Nat.pow_le_pow_right (by omega) (by omega))
    rw [Nat.div_eq_of_lt this]; rfl
theorem cond_ite {α : Type} (b : Bool) (x y : α) : (bif b then x else y) = if b = true then x else y := by cases b <;> rfl
theorem decN_eq {n d : Nat} {s : ByteArray} (h : SR n d s) (i : Nat) : Utf8.decode s i = decN n d i := by
  have hs := h.size
  unfold Utf8.decode decN
  simp only [h.get, hs, cond_ite, ltN_eq, ble_eq, beq_eq, Bool.and_eq_true, decide_eq_true_eq, Nat.add_zero, beq_iff_eq, ge_iff_le, Utf8.runeError]
  by_cases h0 : byteAt d i < 128
  · have h1 : ¬ 128 ≤ byteAt d i := by omega
    rw [if_pos h0, if_neg h1]
  · have h1 : 128 ≤ byteAt d i := by omega
    rw [if_neg h0, if_pos h1]
    split
    · rfl
    · split
      · rename_i h2; rw [if_pos (and_assoc.mp h2)]
      · rename_i h2; rw [if_neg (fun q => h2 (and_assoc.mpr q))]
        split
        · rename_i h3; rw [if_pos (and_assoc.mp (and_assoc.mp h3))]
        · rename_i h3; rw [if_neg (fun q => h3 (and_assoc.mpr (and_assoc.mpr q)))]
/-- A text that is gone over. -/
noncomputable def evRange (P : Program) (h : T AO) (nx : Nat) (t : TypeId) (x : AV) : R :=
  match P.underlying t, x with
  | some .string, .s n d => (h.put nx (.iter n d 0)).seq fun h => .ok (.p nx 0) h (Nat.succ nx)
  | _, _ => .bad
theorem evRange_run (hR : Rel ρ h.get w) {t : TypeId} {x : AV} {x' : Value} (hx : VRel ρ x x') {r : AV} {h' : T AO} {nx' : Nat} (e : evRange P h nx t x = .ok r h' nx') (hf : Fr ρ nx nx') :
    ∃ ρ' u w', (Instr.range t x').run P w = .ok u w' ∧ VRel ρ' r u ∧ Stp ρ ρ' h.get h'.get w w' nx nx' := by
  unfold evRange at e
  split at e
  · rename_i n d hu
    rw [T.seq_eq] at e; cases e
    obtain ⟨s, rfl, hs⟩ := hx
    have hf' : ρ nx = none := hf nx (Nat.le_refl _) (Nat.lt_succ_self _)
    exact ⟨ρ.set nx (w.heap.size, 0), .pointer (some ⟨w.heap.size, 0, none⟩), w.alloc (.stringIter s 0), by simp [Instr.range, run_underlying hu, World.alloc_eq], ⟨_, _, set_self _ _ _, rfl⟩,
      Stp.new_ hR hf' (.stringIter s 0) (.iter n d 0) 0 ⟨s, rfl, hs⟩ _ rfl rfl rfl rfl⟩
  · cases e
noncomputable def evNext (h : T AO) (nx : Nat) (x : AV) (isS : Bool) : R :=
  match x, isS with
  | .p id 0, true => match h.get id with
    | some (.iter n d i) => bif Nat.ble (Nat.succ i) n then
        match decN n d i with
        | (c, k) => (h.put id (.iter n d (Nat.add i k))).seq fun h => .ok (.tup (.cons (.b true) (.cons (.i .i64 (.ofNat i)) (.cons (.i .i32 (.ofNat c)) .nil)))) h nx
      else .ok (.tup (.cons (.b false) .nil)) h nx
    | _ => .bad
  | _, _ => .bad
theorem evNext_run (hR : Rel ρ h.get w) {x : AV} {x' : Value} (hx : VRel ρ x x') {b : Bool} {t : TypeId} {r : AV} {h' : T AO} {nx' : Nat} (e : evNext h nx x b = .ok r h' nx') :
    ∃ u w', (Instr.next x' b t).run P w = .ok u w' ∧ VRel ρ r u ∧ Stp ρ ρ h.get h'.get w w' nx nx' := by
  unfold evNext at e
  split at e
  · rename_i id
    obtain ⟨bb, C, hb, rfl⟩ := hx
    split at e
    · rename_i n d i hid
      obtain ⟨b', C', ob, k1, k2, k3⟩ := hR.has id _ hid
      rw [hb] at k1; cases k1
      obtain ⟨s, rfl, hs⟩ := k3
      have hsz := hs.size
      by_cases hi : i < n
      · have hq : Nat.ble (Nat.succ i) n = true := by rw [Nat.ble_eq]; exact hi
        rw [hq, cond_true] at e
        have hd := decN_eq hs i
        split at e
        rename_i c k hck
        rw [T.seq_eq] at e; cases e
        have hlt : i < s.size := by omega
        refine ⟨.tuple #[.bool true, goInt i, .int .i32 c], { w with heap := w.heap.setIfInBounds bb (.stringIter s (i + k)) }, ?_, ⟨_, rfl, _, _, rfl, rfl, _, _, rfl, rfl, _, _, rfl, rfl, rfl⟩,
          Stp.upd hR hid hb (a1 := .iter n d (i + k)) (o := .stringIter s (i + k)) ⟨s, rfl, hs⟩ _ rfl rfl rfl (by simp) ?_ ?_⟩
        · simp only [Instr.next, getObj, setObj, Sem.run_bind, Sem.run, k2, Result.andThen_ok, hlt, if_true, hd, hck, Sem.run_pure]
        · have := (Array.getElem?_eq_some_iff.1 k2).1
          simp [this]
        · intro k' hk
          simp only [Array.getElem?_setIfInBounds]
          rw [if_neg (Ne.symm hk)]
      · have hq : Nat.ble (Nat.succ i) n = false := by rw [ble_eq]; exact decide_eq_false hi
        rw [hq, cond_false] at e; cases e
        have hlt : ¬ i < s.size := by omega
        refine ⟨.tuple #[.bool false], w, ?_, ⟨_, rfl, _, _, rfl, rfl, rfl⟩, Stp.refl hR⟩
        simp only [Instr.next, getObj, Sem.run_bind, Sem.run, k2, Result.andThen_ok, hlt, if_false, Sem.run_pure]
    · cases e
  · cases e
end Go.Proofs.YtmhnnfponloihaaDoor
