/- Operations that do not touch memory: slices of texts and rows, kinds, structs put together, turned numbers; all of them at once. No Go program in this text. -/
import Derived.Test.YtmhnnfponloihaaDoorEvF
set_option linter.unusedSimpArgs false
set_option linter.unusedVariables false
namespace Go.Proofs.YtmhnnfponloihaaDoor
open Go.RowKit
variable {ρ : Map} {P : Program} {N : Nat} {sl : T AV} {a : Act}

theorem bif_some' {α : Type} {b : Bool} {x : Option α} {v : α} (h : (bif b then x else none) = some v) : b = true ∧ x = some v := by cases b <;> simp at h; exact ⟨rfl, h⟩
/-- A byte of a text. -/
noncomputable def evStrAt (P : Program) (t : TypeId) (n d : Nat) (i : Int) : Option AV :=
  match P.underlying t, natOf i with
  | some .string, some k => bif Nat.ble (Nat.succ k) n then some (.i .u8 (.ofNat (byteAt d k))) else none
  | _, _ => none
theorem evStrAt_run {t : TypeId} {n d : Nat} {s : ByteArray} (hs : SR n d s) {k : IntKind} {i : Int} {v : AV} (h : evStrAt P t n d i = some v) : ∃ u, (∀ w, (Instr.index t (.string s) (.int k i)).run P w = .ok u w) ∧ VRel ρ v u := by
  unfold evStrAt at h
  split at h
  · rename_i m hu hn
    have := natOf_eq hn; subst this
    obtain ⟨h1, rfl⟩ := bif_some h
    rw [Nat.ble_eq] at h1
    have hlt : m < n := h1
    have hat := hs.at m hlt
    refine ⟨.int .u8 (byteAt d m), fun w => ?_, rfl⟩
    have hb := ofNat_toNat (byteAt_lt d m)
    simp [Instr.index, asIntOf, run_underlying hu, hat]
    have := byteAt_lt d m; omega
  · cases h
/-- A bound of a slice: none, or a number. -/
noncomputable def evB (sl : T AV) : Option Operand → Option (Option Nat)
  | none => some none
  | some x => match evX sl x with
    | some (.i _ n) => match natOf n with | some k => some (some k) | none => none
    | _ => none
theorem evB_run (hS : SRel N ρ sl a) {x : Option Operand} {r : Option Nat} (h : evB sl x = some r) : (r = none ∧ x.map a.eval = none) ∨ ∃ k kd, r = some k ∧ x.map a.eval = some (.int kd (k : Int)) := by
  unfold evB at h
  split at h
  · cases h; exact .inl ⟨rfl, rfl⟩
  · rename_i x
    split at h
    · rename_i kd n hx
      split at h <;> cases h
      rename_i k hk
      have := natOf_eq hk; subst this
      have := evX_rel hS hx
      refine .inr ⟨k, kd, rfl, ?_⟩
      simp only [Option.map_some, Option.some.injEq]
      exact this
    · cases h
theorem bound_run {k : IntKind} {n y : Nat} (h : n ≤ y) (c : BoundsCode) (w : World) : (Instr.sliceBound (.int k (n : Int)) y c).run P w = .ok n w := by
  have h2 : (n : Int) ≤ y := by omega
  simp [Instr.sliceBound, asIntOf, h]
/-- Low, high, max. -/
noncomputable def evCut (len cap : Nat) (lo hi mx : Option Nat) : Option (Nat × Nat × Nat) :=
  match lo, hi, mx with
  | none, none, none => some (0, len, cap)
  | some l, none, none => bif Nat.ble l len then some (l, len, cap) else none
  | none, some h, none => bif Nat.ble h cap then some (0, h, cap) else none
  | some l, some h, none => bif Nat.ble l h && Nat.ble h cap then some (l, h, cap) else none
  | none, some h, some m => bif Nat.ble h m && Nat.ble m cap then some (0, h, m) else none
  | some l, some h, some m => bif Nat.ble l h && (Nat.ble h m && Nat.ble m cap) then some (l, h, m) else none
  | _, none, some _ => none
theorem cut_run {isS : Bool} {len cap : Nat} {lo hi mx : Option Nat} {lo' hi' mx' : Option Value} (hlo : (lo = none ∧ lo' = none) ∨ ∃ (k : Nat) (kd : IntKind), lo = some k ∧ lo' = some (Value.int kd (k : Int)))
    (hhi : (hi = none ∧ hi' = none) ∨ ∃ (k : Nat) (kd : IntKind), hi = some k ∧ hi' = some (Value.int kd (k : Int))) (hmx : (mx = none ∧ mx' = none) ∨ ∃ (k : Nat) (kd : IntKind), mx = some k ∧ mx' = some (Value.int kd (k : Int)))
    {r : Nat × Nat × Nat} (h : evCut len cap lo hi mx = some r) (w : World) : (Instr.sliceBounds isS len cap lo' hi' mx').run P w = .ok r w := by
  rcases hlo with ⟨rfl, rfl⟩ | ⟨l, ld, rfl, rfl⟩ <;> rcases hhi with ⟨rfl, rfl⟩ | ⟨h', hd, rfl, rfl⟩ <;> rcases hmx with ⟨rfl, rfl⟩ | ⟨m, md, rfl, rfl⟩ <;> simp only [evCut] at h
  · cases h; simp [Instr.sliceBounds]
  · cases h
  · obtain ⟨h1, rfl⟩ := bif_some h
    rw [Nat.ble_eq] at h1
    simp [Instr.sliceBounds, bound_run h1]
  · obtain ⟨h1, rfl⟩ := bif_some h
    rw [Bool.and_eq_true, Nat.ble_eq, Nat.ble_eq] at h1
    simp [Instr.sliceBounds, bound_run h1.1, bound_run h1.2]
  · obtain ⟨h1, rfl⟩ := bif_some h
    rw [Nat.ble_eq] at h1
    simp [Instr.sliceBounds, bound_run h1]
  · cases h
  · obtain ⟨h1, rfl⟩ := bif_some h
    rw [Bool.and_eq_true, Nat.ble_eq, Nat.ble_eq] at h1
    simp [Instr.sliceBounds, bound_run h1.1, bound_run h1.2]
  · obtain ⟨h1, rfl⟩ := bif_some h
    rw [Bool.and_eq_true, Bool.and_eq_true, Nat.ble_eq, Nat.ble_eq, Nat.ble_eq] at h1
    simp [Instr.sliceBounds, bound_run h1.1, bound_run h1.2.1, bound_run h1.2.2]
/-- What a slice's type is: 1: a text; 2: a row of elements of z cells; 3: an array of len elements. -/
def sliceTy (P : Program) (t : TypeId) : Nat × Nat × Nat :=
  match P.underlying t with
  | some .string => (1, 0, 0)
  | some (.slice e) => match sizeTy P e with | some n => (2, n, 0) | none => (0, 0, 0)
  | some (.array len e) => match sizeTy P e with | some n => (3, n, len) | none => (0, 0, 0)
  | _ => (0, 0, 0)
noncomputable def evSlice (P : Program) (t : TypeId) (x : AV) (lo hi mx : Option Nat) : Option AV :=
  match sliceTy P t, x with
  | (1, _, _), .s n d => match mx with
    | some _ => none
    | none => match evCut n n lo hi none with
      | some (l, h, _) => bif Nat.ble l h && Nat.ble h n then some (.s (Nat.sub h l) (Nat.shiftRight d (Nat.mul 8 l) % Nat.pow 2 (Nat.mul 8 (Nat.sub h l)))) else none
      | none => none
  | (2, z, _), .sl id off len cap => match evCut len cap lo hi mx with
    | some (l, h, m) => some (.sl id (bif Nat.beq m l then off else Nat.add off (Nat.mul l z)) (Nat.sub h l) (Nat.sub m l))
    | none => none
  | (2, z, _), .su id off len => match mx with
    | some _ => none
    | none => match evCut len len lo hi none with
      | some (l, h, _) => bif Nat.ble l h && Nat.ble h len then some (.su id (Nat.add off (Nat.mul l z)) (Nat.sub h l)) else none
      | none => none
  | (2, z, _), .gs id len => match mx with
    | some _ => none
    | none => match evCut len len lo hi none with
      | some (l, h, _) => bif Nat.ble l h && Nat.ble h len then (bif Nat.beq l 0 then some (.gs id h) else some (.su id (Nat.mul l z) (Nat.sub h l))) else none
      | none => none
  | (2, _, _), .ns => match evCut 0 0 lo hi mx with
    | some (l, h, m) => bif Nat.beq l 0 && (Nat.beq h 0 && Nat.beq m 0) then some .ns else none
    | none => none
  | (3, z, n), .p id off => match evCut n n lo hi mx with
    | some (l, h, m) => some (.sl id (bif Nat.beq m l then off else Nat.add off (Nat.mul l z)) (Nat.sub h l) (Nat.sub m l))
    | none => none
  | _, _ => none
theorem cut_wide {len c l h m : Nat} {lo hi : Option Nat} (hc : len ≤ c) (e : evCut len len lo hi none = some (l, h, m)) : evCut len c lo hi none = some (l, h, c) := by
  cases lo <;> cases hi <;> simp only [evCut] at e ⊢
  · cases e; rfl
  · rename_i k
    obtain ⟨h1, h2⟩ := bif_some e
    cases h2
    rw [Nat.ble_eq] at h1
    have : Nat.ble h c = true := by rw [Nat.ble_eq]; omega
    simp [this]
  · rename_i k
    obtain ⟨h1, h2⟩ := bif_some e
    cases h2; simp [h1]
  · rename_i j k
    obtain ⟨h1, h2⟩ := bif_some e
    cases h2
    rw [Bool.and_eq_true, Nat.ble_eq, Nat.ble_eq] at h1
    have h3 : Nat.ble h c = true := by rw [Nat.ble_eq]; omega
    have h4 : Nat.ble l h = true := by rw [Nat.ble_eq]; omega
    simp [h3, h4]
abbrev Bnd (x : Option Nat) (v : Option Value) : Prop := (x = none ∧ v = none) ∨ ∃ (k : Nat) (kd : IntKind), x = some k ∧ v = some (Value.int kd (k : Int))
theorem sliceTy_is {t : TypeId} {z n : Nat} : (sliceTy P t = (1, z, n) → P.underlying t = some .string) ∧ (sliceTy P t = (2, z, n) → ∃ e, P.underlying t = some (.slice e) ∧ sizeTy P e = some z) ∧
    (sliceTy P t = (3, z, n) → ∃ e, P.underlying t = some (.array n e) ∧ sizeTy P e = some z) := by
  unfold sliceTy
  split
  · rename_i h; simp [h]
  · rename_i e h
    cases g : sizeTy P e <;> simp [g, h]
    intro h1 _; exact h1
  · rename_i len e h
    cases g : sizeTy P e <;> simp [g, h]
    intro h1 h2; subst h1; subst h2; exact ⟨e, ⟨rfl, rfl⟩, g⟩
  · simp
theorem evSlice_run {t : TypeId} {x : AV} {x' : Value} (hx : VRel ρ x x') {lo hi mx : Option Nat} {lo' hi' mx' : Option Value} (hlo : Bnd lo lo') (hhi : Bnd hi hi') (hmx : Bnd mx mx') {v : AV} (h : evSlice P t x lo hi mx = some v) :
    ∃ u, (∀ w, (Instr.sliceAt t x' lo' hi' mx').run P w = .ok u w) ∧ VRel ρ v u := by
  unfold evSlice at h
  split at h
  · rename_i z y n d hk
    have hu := (sliceTy_is (P := P)).1 hk
    obtain ⟨s, rfl, hs⟩ := hx
    split at h
    · cases h
    · have hm : mx' = none := by rcases hmx with ⟨_, e⟩ | ⟨_, _, e, _⟩; exact e; cases e
      subst hm
      split at h
      · rename_i l h' m hc
        obtain ⟨h1, rfl⟩ := bif_some h
        rw [Bool.and_eq_true, Nat.ble_eq, Nat.ble_eq] at h1
        have hr := cut_run (P := P) (isS := false) hlo hhi (.inl ⟨rfl, rfl⟩) hc
        have hsz := hs.size
        refine ⟨.string (s.extract l h'), fun w => ?_, _, rfl, hs.extract l h' h1.1 h1.2⟩
        simp only [Instr.sliceAt, Sem.run_bind, run_underlying hu, Result.andThen_ok, Instr.slice, Option.isSome_none, Bool.false_eq_true, if_false, hsz, hr, Sem.run_pure]
      · cases h
  · rename_i z y id off len cap hk
    obtain ⟨e, hu, hz⟩ := (sliceTy_is (P := P)).2.1 hk
    obtain ⟨b, C, hr, rfl⟩ := hx
    split at h
    · rename_i l h' m hc
      cases h
      have hq := cut_run (P := P) (isS := true) hlo hhi hmx hc
      refine ⟨.slice (some ⟨b, bif Nat.beq m l then off else off + l * z, none⟩) (h' - l) (m - l), fun w => ?_, b, C, hr, rfl⟩
      simp only [Instr.sliceAt, Sem.run_bind, run_underlying hu, Result.andThen_ok, Instr.slice, hq, sizeOf_run hz, Sem.run_pure, beq_eq]
      by_cases hml : m = l <;> simp [hml, addr_add]
    · cases h
  · rename_i z y id off len hk
    obtain ⟨e, hu, hz⟩ := (sliceTy_is (P := P)).2.1 hk
    obtain ⟨b, C, o, c, hr, rfl, hc, ho⟩ := hx
    split at h
    · cases h
    · have hm : mx' = none := by rcases hmx with ⟨_, e⟩ | ⟨_, _, e, _⟩; exact e; cases e
      subst hm
      split at h
      · rename_i l h' m hcut
        obtain ⟨h1, rfl⟩ := bif_some h
        rw [Bool.and_eq_true, Nat.ble_eq, Nat.ble_eq] at h1
        have hq := cut_run (P := P) (isS := true) hlo hhi (.inl ⟨rfl, rfl⟩) (cut_wide hc hcut)
        refine ⟨.slice (some ⟨b, if c = l then o else o + l * z, none⟩) (h' - l) (c - l), fun w => ?_, b, C, _, c - l, hr, rfl, ?_, ?_⟩
        · simp only [Instr.sliceAt, Sem.run_bind, run_underlying hu, Result.andThen_ok, Instr.slice, hq, sizeOf_run hz, Sem.run_pure]
          by_cases hml : c = l <;> simp [hml, addr_add]
        · show h' - l ≤ c - l; omega
        · intro hp
          have hp' : 0 < h' - l := hp
          have := ho (by omega); subst this
          rw [if_neg (by omega)]; rfl
      · cases h
  · rename_i z y id len hk
    obtain ⟨e, hu, hz⟩ := (sliceTy_is (P := P)).2.1 hk
    obtain ⟨b, C, hr, rfl, hc⟩ := hx
    split at h
    · cases h
    · have hm : mx' = none := by rcases hmx with ⟨_, e⟩ | ⟨_, _, e, _⟩; exact e; cases e
      subst hm
      split at h
      · rename_i l h' m hcut
        obtain ⟨h1, h⟩ := bif_some' h
        rw [Bool.and_eq_true, Nat.ble_eq, Nat.ble_eq] at h1
        have hq := cut_run (P := P) (isS := true) hlo hhi (.inl ⟨rfl, rfl⟩) (cut_wide hc hcut)
        by_cases hl : l = 0
        · subst hl
          simp only [beq_t (rfl : (0 : Nat) = 0), cond_true, Option.some.injEq] at h
          subst h
          refine ⟨.slice (some ⟨b, 0, none⟩) h' C, fun w => ?_, b, C, hr, rfl, by omega⟩
          simp only [Instr.sliceAt, Sem.run_bind, run_underlying hu, Result.andThen_ok, Instr.slice, hq, sizeOf_run hz, Sem.run_pure]
          by_cases hml : C = 0 <;> simp [hml, addr_add]
        · simp only [beq_f hl, cond_false, Option.some.injEq] at h
          subst h
          refine ⟨.slice (some ⟨b, if C = l then 0 else l * z, none⟩) (h' - l) (C - l), fun w => ?_, b, C, _, C - l, hr, rfl, ?_, ?_⟩
          · simp only [Instr.sliceAt, Sem.run_bind, run_underlying hu, Result.andThen_ok, Instr.slice, hq, sizeOf_run hz, Sem.run_pure]
            by_cases hml : C = l <;> simp [hml, addr_add]
          · show h' - l ≤ C - l; omega
          · intro hp
            have hp' : 0 < h' - l := hp
            rw [if_neg (by omega)]; rfl
      · cases h
  · rename_i z y hk
    obtain ⟨e, hu, hz⟩ := (sliceTy_is (P := P)).2.1 hk
    cases hx
    split at h
    · rename_i l h' m hc
      obtain ⟨h1, rfl⟩ := bif_some h
      rw [Bool.and_eq_true, Bool.and_eq_true, Nat.beq_eq, Nat.beq_eq, Nat.beq_eq] at h1
      obtain ⟨rfl, rfl, rfl⟩ := h1
      have hq := cut_run (P := P) (isS := true) hlo hhi hmx hc
      refine ⟨.slice none 0 0, fun w => ?_, rfl⟩
      simp only [Instr.sliceAt, Sem.run_bind, run_underlying hu, Result.andThen_ok, Instr.slice, hq, sizeOf_run hz, Sem.run_pure]
      simp
    · cases h
  · rename_i z n id off hk
    obtain ⟨e, hu, hz⟩ := (sliceTy_is (P := P)).2.2 hk
    obtain ⟨b, C, hr, rfl⟩ := hx
    split at h
    · rename_i l h' m hc
      cases h
      have hq := cut_run (P := P) (isS := false) hlo hhi hmx hc
      refine ⟨.slice (some ⟨b, bif Nat.beq m l then off else off + l * z, none⟩) (h' - l) (m - l), fun w => ?_, b, C, hr, rfl⟩
      simp only [Instr.sliceAt, Sem.run_bind, run_underlying hu, Result.andThen_ok, Instr.sureAddr, hq, sizeOf_run hz, Sem.run_pure, beq_eq]
      by_cases hml : m = l <;> simp [hml, addr_add]
    · cases h
  · cases h
end Go.Proofs.YtmhnnfponloihaaDoor
