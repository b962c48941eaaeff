/- Operations that do not touch memory: what is nil, places, parts of values, kinds. No Go program in this text. -/
import Derived.Test.YtlifpdcpklimcaaGreatDoorEvD
set_option linter.unusedSimpArgs false
set_option linter.unusedVariables false
namespace Go.Proofs.YtlifpdcpklimcaaGreatDoor
open Go.RowKit
variable {ρ : Map} {P : Program} {N : Nat} {sl : T AV} {a : Act}

theorem nilTy_is {t : TypeId} : (nilTy P t = 1 → ∃ e, P.underlying t = some (.pointer e)) ∧ (nilTy P t = 2 → ∃ e, P.underlying t = some (.slice e)) ∧ (nilTy P t = 3 → ∃ x y z, P.underlying t = some (.func x y z)) ∧
    (nilTy P t = 4 → ∃ e, P.underlying t = some (.interface e)) ∧ (nilTy P t = 5 → P.underlying t = some .bool) := by
  unfold nilTy
  split <;> simp_all
theorem equal_run {t : TypeId} {c : Bool} {x y : AV} {x' y' : Value} (hx : VRel ρ x x') (hy : VRel ρ y y') {r : Bool} (h : evEq P t c x y = some r) : ∀ w, (Op.equal t x' y').run P w = .ok r w := by
  have he : Op.equal t x' y' = Op.equalIn (9999 + 1) t x' y' := rfl
  rw [he]; clear he
  generalize 9999 = dp
  obtain ⟨n1, n2, n3, n4, n5⟩ := nilTy_is (P := P) (t := t)
  unfold evEq at h
  split at h <;> try cases h
  case h_1 e => obtain ⟨d, hd⟩ := n1 e; cases hx; cases hy; intro w; simp [Op.equalIn, run_underlying hd]
  case h_2 e => obtain ⟨d, hd⟩ := n1 e; cases hx; obtain ⟨b, C, _, rfl⟩ := hy; intro w; simp [Op.equalIn, run_underlying hd]
  case h_3 e => obtain ⟨d, hd⟩ := n1 e; cases hy; obtain ⟨b, C, _, rfl⟩ := hx; intro w; simp [Op.equalIn, run_underlying hd]
  case h_4 e => obtain ⟨d, hd⟩ := n2 e; cases hx; cases hy; intro w; simp [Op.equalIn, run_underlying hd]
  case h_5 e => obtain ⟨d, hd⟩ := n2 e; cases hx; obtain ⟨b, C, _, rfl⟩ := hy; intro w; simp [Op.equalIn, run_underlying hd]
  case h_6 e => obtain ⟨d, hd⟩ := n2 e; cases hx; obtain ⟨b, C, o, c, _, rfl, _⟩ := hy; intro w; simp [Op.equalIn, run_underlying hd]
  case h_7 e => obtain ⟨d, hd⟩ := n2 e; cases hx; obtain ⟨b, C, _, rfl, _⟩ := hy; intro w; simp [Op.equalIn, run_underlying hd]
  case h_8 e => obtain ⟨d, hd⟩ := n2 e; cases hy; obtain ⟨b, C, _, rfl⟩ := hx; intro w; simp [Op.equalIn, run_underlying hd]
  case h_9 e => obtain ⟨d, hd⟩ := n2 e; cases hy; obtain ⟨b, C, o, c, _, rfl, _⟩ := hx; intro w; simp [Op.equalIn, run_underlying hd]
  case h_10 e => obtain ⟨d, hd⟩ := n2 e; cases hy; obtain ⟨b, C, _, rfl, _⟩ := hx; intro w; simp [Op.equalIn, run_underlying hd]
  case h_11 e => obtain ⟨_, _, _, hd⟩ := n3 e; cases hx; cases hy; intro w; simp [Op.equalIn, run_underlying hd]
  case h_12 e => obtain ⟨_, _, _, hd⟩ := n3 e; cases hx; obtain ⟨c, rfl, _⟩ := hy; intro w; simp [Op.equalIn, run_underlying hd]
  case h_13 e => obtain ⟨_, _, _, hd⟩ := n3 e; cases hy; obtain ⟨c, rfl, _⟩ := hx; intro w; simp [Op.equalIn, run_underlying hd]
  case h_14 e => obtain ⟨d, hd⟩ := n4 e; cases hx; obtain ⟨c, rfl, _⟩ := hy; intro w; simp [Op.equalIn, run_underlying hd]
  case h_15 e => obtain ⟨d, hd⟩ := n4 e; cases hy; obtain ⟨c, rfl, _⟩ := hx; intro w; simp [Op.equalIn, run_underlying hd]
  case h_16 e =>
    obtain ⟨d, hd⟩ := n4 e
    cases c <;> cases h
    cases hx; cases hy; intro w; simp [Op.equalIn, run_underlying hd]
  case h_17 e => have hd := n5 e; cases hx; cases hy; intro w; simp [Op.equalIn, run_underlying hd]
def isC : Operand → Bool
  | .const _ => true
  | _ => false
theorem eqGuard_run {op : BinOp} {t : TypeId} {ox oy : Operand} {x y : AV} {x' y' : Value} (hx : VRel ρ x x') (hy : VRel ρ y y') (hg : ∀ l, x ≠ .agg l) (hc : x = .ni → y = .ni → (isC ox || isC oy) = true ∨ ¬ (op = .eql ∨ op = .neq)) (w : World) :
    (eqGuard op t ox oy x' y').run P w = .ok () w := by
  cases x with
  | agg l => exact absurd rfl (hg l)
  | b _ => cases hx; cases op <;> rfl
  | i _ _ => cases hx; cases op <;> rfl
  | s _ _ => obtain ⟨s, rfl, _⟩ := hx; cases op <;> rfl
  | p _ _ => obtain ⟨b, C, _, rfl⟩ := hx; cases op <;> rfl
  | np => cases hx; cases op <;> rfl
  | sl _ _ _ _ => obtain ⟨b, C, _, rfl⟩ := hx; cases op <;> rfl
  | su _ _ _ => obtain ⟨b, C, o, c, _, rfl, _⟩ := hx; cases op <;> rfl
  | gs _ _ => obtain ⟨b, C, _, rfl, _⟩ := hx; cases op <;> rfl
  | ns => cases hx; cases op <;> rfl
  | fn _ _ => obtain ⟨c, rfl, _⟩ := hx; cases op <;> rfl
  | nf => cases hx; cases op <;> rfl
  | yl _ => obtain ⟨b, C, _, rfl⟩ := hx; cases op <;> rfl
  | r _ _ _ => obtain ⟨z, rfl, _⟩ := hx; cases op <;> rfl
  | ifc _ _ => obtain ⟨c, rfl, _⟩ := hx; cases op <;> rfl
  | tup _ => obtain ⟨c, rfl, _⟩ := hx; cases op <;> rfl
  | ni =>
    cases hx
    cases y with
    | ni =>
      cases hy
      rcases hc rfl rfl with hc | hc
      · cases ox <;> cases oy <;> first | (cases hc; done) | (cases op <;> rfl)
      · cases op <;> first | rfl | exact absurd (by simp) hc
    | b _ => cases hy; cases op <;> rfl
    | i _ _ => cases hy; cases op <;> rfl
    | s _ _ => obtain ⟨s, rfl, _⟩ := hy; cases op <;> rfl
    | p _ _ => obtain ⟨b, C, _, rfl⟩ := hy; cases op <;> rfl
    | np => cases hy; cases op <;> rfl
    | sl _ _ _ _ => obtain ⟨b, C, _, rfl⟩ := hy; cases op <;> rfl
    | su _ _ _ => obtain ⟨b, C, o, c, _, rfl, _⟩ := hy; cases op <;> rfl
    | gs _ _ => obtain ⟨b, C, _, rfl, _⟩ := hy; cases op <;> rfl
    | ns => cases hy; cases op <;> rfl
    | fn _ _ => obtain ⟨c, rfl, _⟩ := hy; cases op <;> rfl
    | nf => cases hy; cases op <;> rfl
    | yl _ => obtain ⟨b, C, _, rfl⟩ := hy; cases op <;> rfl
    | r _ _ _ => obtain ⟨z, rfl, _⟩ := hy; cases op <;> rfl
    | ifc _ _ => obtain ⟨c, rfl, _⟩ := hy; cases op <;> rfl
    | agg _ => obtain ⟨c, rfl, _⟩ := hy; cases op <;> rfl
    | tup _ => obtain ⟨c, rfl, _⟩ := hy; cases op <;> rfl
/-- The values that evEq takes are none of a struct. -/
theorem evEq_agg {t : TypeId} {c : Bool} {x y : AV} {r : Bool} (h : evEq P t c x y = some r) : ∀ l, x ≠ .agg l := by
  intro l e; subst e
  unfold evEq at h
  split at h <;> simp_all
theorem evEq_ni {t : TypeId} {c : Bool} {r : Bool} (h : evEq P t c .ni .ni = some r) : c = true := by
  unfold evEq at h
  split at h <;> cases c <;> simp_all
theorem binOp_else {op : BinOp} {t : TypeId} {x y : AV} {x' y' : Value} (hx : VRel ρ x x') (hy : VRel ρ y y') {c : Bool} {r : Bool} (h : evEq P t c x y = some r) :
    (op = .eql → ∀ w, (binOp op t x' y').run P w = .ok (.bool r) w) ∧ (op = .neq → ∀ w, (binOp op t x' y').run P w = .ok (.bool (!r)) w) := by
  have hq := equal_run hx hy h
  have key : (binOp .eql t x' y' = (do pure (.bool (← Op.equal t x' y')))) ∧ (binOp .neq t x' y' = (do pure (.bool (!(← Op.equal t x' y'))))) := by
    unfold evEq at h
    split at h <;> try cases h
    all_goals first
      | (cases hx; cases hy; exact ⟨rfl, rfl⟩)
      | (cases hx; obtain ⟨b, C, _, rfl⟩ := hy; exact ⟨rfl, rfl⟩)
      | (cases hy; obtain ⟨b, C, _, rfl⟩ := hx; exact ⟨rfl, rfl⟩)
      | (cases hx; obtain ⟨b, C, _, rfl, _⟩ := hy; exact ⟨rfl, rfl⟩)
      | (cases hy; obtain ⟨b, C, _, rfl, _⟩ := hx; exact ⟨rfl, rfl⟩)
      | (cases hx; obtain ⟨b, C, o, c, _, rfl, _⟩ := hy; exact ⟨rfl, rfl⟩)
      | (cases hy; obtain ⟨b, C, o, c, _, rfl, _⟩ := hx; exact ⟨rfl, rfl⟩)
      | (cases hx; obtain ⟨c, rfl, _⟩ := hy; exact ⟨rfl, rfl⟩)
      | (cases hy; obtain ⟨c, rfl, _⟩ := hx; exact ⟨rfl, rfl⟩)
  refine ⟨?_, ?_⟩
  · rintro rfl w; rw [key.1]; simp [hq]
  · rintro rfl w; rw [key.2]; simp [hq]
theorem evBin_run {op : BinOp} {t : TypeId} {ox oy : Operand} {x y : AV} {x' y' : Value} (hx : VRel ρ x x') (hy : VRel ρ y y') {v : AV} (h : evBin P op t (isC ox || isC oy) x y = some v) :
    ∃ u, (∀ w, (do eqGuard op t ox oy x' y'; binOp op t x' y' : Sem Value).run P w = .ok u w) ∧ VRel ρ v u := by
  have hgen : ∀ (u : Value), (∀ l, x ≠ .agg l) → (x = .ni → y = .ni → (isC ox || isC oy) = true ∨ ¬ (op = .eql ∨ op = .neq)) → (∀ w, (binOp op t x' y').run P w = .ok u w) → ∀ w, (do eqGuard op t ox oy x' y'; binOp op t x' y' : Sem Value).run P w = .ok u w := by
    intro u h1 h2 h3 w
    simp [eqGuard_run (P := P) (op := op) (t := t) (ox := ox) (oy := oy) hx hy h1 h2 w, h3 w]
  unfold evBin at h
  split at h
  · cases hx; cases hy
    split at h
    · obtain ⟨u, h1, h2⟩ := evShift_run (ρ := ρ) (P := P) (.inl rfl) h
      exact ⟨u, hgen u (by simp) (by simp) fun w => by rw [binOp_shl]; exact h1 w, h2⟩
    · obtain ⟨u, h1, h2⟩ := evShift_run (ρ := ρ) (P := P) (.inr rfl) h
      exact ⟨u, hgen u (by simp) (by simp) fun w => by rw [binOp_shr]; exact h1 w, h2⟩
    · rename_i j1 a1 k1 b1 op1 n1 n2
      cases hk : eqK j1 k1 with
      | false => simp [hk] at h
      | true =>
        rw [hk, cond_true] at h
        have := eqK_eq hk; subst this
        obtain ⟨u, h1, h2⟩ := evInt_run (ρ := ρ) (P := P) (t := t) n1 n2 h
        exact ⟨u, hgen u (by simp) (by simp) h1, h2⟩
  · obtain ⟨s1, rfl, h1⟩ := hx; obtain ⟨s2, rfl, h2⟩ := hy
    obtain ⟨u, h3, h4⟩ := evStr_run (ρ := ρ) (P := P) (t := t) h1 h2 h
    exact ⟨u, hgen u (by simp) (by simp) h3, h4⟩
  · rename_i m n j y
    obtain ⟨z, rfl, hz, hm⟩ := hx
    cases hy
    cases op <;> try cases h
    have h' : (bif eqK j .u64 && (eqI y (.ofNat m) && Nat.ble 1 m) then some (AV.i .u64 (.ofNat n)) else none) = some v := h
    clear h
    have hb : (eqK j .u64 && (eqI y (.ofNat m) && Nat.ble 1 m)) = true := by
      cases hb : (eqK j .u64 && (eqI y (.ofNat m) && Nat.ble 1 m)) with
      | false => rw [hb, cond_false] at h'; cases h'
      | true => rfl
    rw [hb, cond_true] at h'
    rw [Bool.and_eq_true, Bool.and_eq_true, eqI_eq, decide_eq_true_iff, Nat.ble_eq] at hb
    obtain ⟨hj, hy, hm1⟩ := hb
    cases h'
    have := eqK_eq hj; subst this
    subst hy
    obtain ⟨z0, z1⟩ := hz rfl
    have h2 : z % 18446744073709551616 = z := Int.emod_eq_of_lt z0 z1
    rw [h2] at hm
    have h3 : z.tmod (Int.ofNat m) = n := by rw [Int.tmod_eq_emod_of_nonneg z0]; exact hm
    have hne : (Int.ofNat m) ≠ 0 := by simp; omega
    refine ⟨.int .u64 n, hgen _ (by simp) (by simp) fun w => ?_, rfl⟩
    rw [← h3]
    simp [binOp, Op.intDiv, hne]
    omega
  · split at h
    · split at h <;> cases h
      rename_i r hr
      have := (binOp_else (op := .eql) hx hy hr).1 rfl
      exact ⟨_, hgen _ (evEq_agg hr) (fun e1 e2 => by subst e1; subst e2; exact .inl (evEq_ni hr)) this, rfl⟩
    · split at h <;> cases h
      rename_i r hr
      have := (binOp_else (op := .neq) hx hy hr).2 rfl
      exact ⟨_, hgen _ (evEq_agg hr) (fun e1 e2 => by subst e1; subst e2; exact .inl (evEq_ni hr)) this, rfl⟩
    · cases h
end Go.Proofs.YtlifpdcpklimcaaGreatDoor
