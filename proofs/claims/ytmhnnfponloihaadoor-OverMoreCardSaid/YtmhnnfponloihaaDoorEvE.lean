/- Operations that do not touch memory: what is nil, places, parts of values, kinds. No Go program in this text. -/
import Derived.Test.YtmhnnfponloihaaDoorEvD
set_option linter.unusedSimpArgs false
set_option linter.unusedVariables false
namespace Go.Proofs.YtmhnnfponloihaaDoor
open Go.RowKit
variable {ρ : Map} {P : Program} {N : Nat} {sl : T AV} {a : Act}

theorem nilTy_is {t : TypeId} : (nilTy P t = 1 → ∃ e, P.underlying t = some (.pointer e)) ∧ (nilTy P t = 2 → ∃ e, P.underlying t = some (.slice e)) ∧ (nilTy P t = 3 → ∃ x y z, P.underlying t = some (.func x y z)) ∧
    (nilTy P t = 4 → ∃ e, P.underlying t = some (.interface e)) ∧ (nilTy P t = 5 → P.underlying t = some .bool) ∧ (nilTy P t = 6 → ∃ a b, P.underlying t = some (.map a b)) := by
  unfold nilTy
  split <;> simp_all
set_option maxHeartbeats 1000000 in
theorem equal_run {t : TypeId} {c : Bool} {x y : AV} {x' y' : Value} (hx : VRel ρ x x') (hy : VRel ρ y y') {r : Bool} (h : evEq P t c x y = some r) : ∀ w, (Op.equal t x' y').run P w = .ok r w := by
  have he : Op.equal t x' y' = Op.equalIn (9999 + 1) t x' y' := rfl
  rw [he]; clear he
  generalize 9999 = dp
  obtain ⟨n1, n2, n3, n4, n5, n6⟩ := nilTy_is (P := P) (t := t)
  unfold evEq at h
  split at h <;> try cases h
  case h_1 e => obtain ⟨d, hd⟩ := n1 e; cases hx; cases hy; intro w; simp [Op.equalIn, run_underlying hd]
  case h_2 e => obtain ⟨d, hd⟩ := n1 e; cases hx; obtain ⟨b, C, _, rfl⟩ := hy; intro w; simp [Op.equalIn, run_underlying hd]
  case h_3 e => obtain ⟨d, hd⟩ := n1 e; cases hy; obtain ⟨b, C, _, rfl⟩ := hx; intro w; simp [Op.equalIn, run_underlying hd]
  case h_4 e => obtain ⟨d, hd⟩ := n2 e; cases hx; cases hy; intro w; simp [Op.equalIn, run_underlying hd]
  case h_5 e => obtain ⟨d, hd⟩ := n2 e; cases hx; obtain ⟨b, C, _, rfl⟩ := hy; intro w; simp [Op.equalIn, run_underlying hd]
  case h_6 e => obtain ⟨d, hd⟩ := n2 e; cases hx; obtain ⟨b, C, o, c, _, rfl, _⟩ := hy; intro w; simp [Op.equalIn, run_underlying hd]
  case h_7 e => obtain ⟨d, hd⟩ := n2 e; cases hx; obtain ⟨b, C, _, rfl, _⟩ := hy; intro w; simp [Op.equalIn, run_underlying hd]
  case h_8 e => obtain ⟨d, hd⟩ := n2 e; cases hy; obtain ⟨b, C, _, rfl⟩ := hx; intro w; simp [Op.equalIn, run_underlying hd]
  case h_9 e => obtain ⟨d, hd⟩ := n2 e; cases hy; obtain ⟨b, C, o, c, _, rfl, _⟩ := hx; intro w; simp [Op.equalIn, run_underlying hd]
  case h_10 e => obtain ⟨d, hd⟩ := n2 e; cases hy; obtain ⟨b, C, _, rfl, _⟩ := hx; intro w; simp [Op.equalIn, run_underlying hd]
  case h_11 e => obtain ⟨_, _, _, hd⟩ := n3 e; cases hx; cases hy; intro w; simp [Op.equalIn, run_underlying hd]
  case h_12 e => obtain ⟨_, _, _, hd⟩ := n3 e; cases hx; obtain ⟨c, rfl, _⟩ := hy; intro w; simp [Op.equalIn, run_underlying hd]
  case h_13 e => obtain ⟨_, _, _, hd⟩ := n3 e; cases hy; obtain ⟨c, rfl, _⟩ := hx; intro w; simp [Op.equalIn, run_underlying hd]
  case h_14 e => obtain ⟨d, hd⟩ := n4 e; cases hx; obtain ⟨c, rfl, _⟩ := hy; intro w; simp [Op.equalIn, run_underlying hd]
  case h_15 e => obtain ⟨d, hd⟩ := n4 e; cases hy; obtain ⟨c, rfl, _⟩ := hx; intro w; simp [Op.equalIn, run_underlying hd]
  case h_16 e =>
    obtain ⟨d, hd⟩ := n4 e
    cases c <;> cases h
    cases hx; cases hy; intro w; simp [Op.equalIn, run_underlying hd]
  case h_17 e => have hd := n5 e; cases hx; cases hy; intro w; simp [Op.equalIn, run_underlying hd]
  case h_18 e => obtain ⟨_, _, hd⟩ := n6 e; cases hx; cases hy; intro w; simp [Op.equalIn, run_underlying hd]
  case h_19 e => obtain ⟨_, _, hd⟩ := n6 e; cases hx; obtain ⟨b, C, _, rfl⟩ := hy; intro w; simp [Op.equalIn, run_underlying hd]
  case h_20 e => obtain ⟨_, _, hd⟩ := n6 e; cases hy; obtain ⟨b, C, _, rfl⟩ := hx; intro w; simp [Op.equalIn, run_underlying hd]
def isC : Operand → Bool
  | .const _ => true
  | _ => false
theorem eqGuard_run {op : BinOp} {t : TypeId} {ox oy : Operand} {x y : AV} {x' y' : Value} (hx : VRel ρ x x') (hy : VRel ρ y y') (hg : ∀ l, x ≠ .agg l) (hc : x = .ni → y = .ni → (isC ox || isC oy) = true ∨ ¬ (op = .eql ∨ op = .neq)) (w : World) :
    (eqGuard op t ox oy x' y').run P w = .ok () w := by
  cases x with
  | agg l => exact absurd rfl (hg l)
  | b _ => cases hx; cases op <;> rfl
  | i _ _ => cases hx; cases op <;> rfl
  | s _ _ => obtain ⟨s, rfl, _⟩ := hx; cases op <;> rfl
  | p _ _ => obtain ⟨b, C, _, rfl⟩ := hx; cases op <;> rfl
  | np => cases hx; cases op <;> rfl
  | sl _ _ _ _ => obtain ⟨b, C, _, rfl⟩ := hx; cases op <;> rfl
  | su _ _ _ => obtain ⟨b, C, o, c, _, rfl, _⟩ := hx; cases op <;> rfl
  | gs _ _ => obtain ⟨b, C, _, rfl, _⟩ := hx; cases op <;> rfl
  | ns => cases hx; cases op <;> rfl
  | fn _ _ => obtain ⟨c, rfl, _⟩ := hx; cases op <;> rfl
  | nf => cases hx; cases op <;> rfl
  | yl _ => obtain ⟨b, C, _, rfl⟩ := hx; cases op <;> rfl
  | r _ _ _ => obtain ⟨z, rfl, _⟩ := hx; cases op <;> rfl
  | ifc _ _ => obtain ⟨c, rfl, _⟩ := hx; cases op <;> rfl
  | mp _ => obtain ⟨b, C, _, rfl⟩ := hx; cases op <;> rfl
  | nm => cases hx; cases op <;> rfl
  | tup _ => obtain ⟨c, rfl, _⟩ := hx; cases op <;> rfl
  | ni =>
    cases hx
    cases y with
    | ni =>
      cases hy
      rcases hc rfl rfl with hc | hc
      · cases ox <;> cases oy <;> first | (cases hc; done) | (cases op <;> rfl)
      · cases op <;> first | rfl | exact absurd (by simp) hc
    | b _ => cases hy; cases op <;> rfl
    | i _ _ => cases hy; cases op <;> rfl
    | s _ _ => obtain ⟨s, rfl, _⟩ := hy; cases op <;> rfl
    | p _ _ => obtain ⟨b, C, _, rfl⟩ := hy; cases op <;> rfl
    | np => cases hy; cases op <;> rfl
    | sl _ _ _ _ => obtain ⟨b, C, _, rfl⟩ := hy; cases op <;> rfl
    | su _ _ _ => obtain ⟨b, C, o, c, _, rfl, _⟩ := hy; cases op <;> rfl
    | gs _ _ => obtain ⟨b, C, _, rfl, _⟩ := hy; cases op <;> rfl
    | ns => cases hy; cases op <;> rfl
    | fn _ _ => obtain ⟨c, rfl, _⟩ := hy; cases op <;> rfl
    | nf => cases hy; cases op <;> rfl
    | yl _ => obtain ⟨b, C, _, rfl⟩ := hy; cases op <;> rfl
    | r _ _ _ => obtain ⟨z, rfl, _⟩ := hy; cases op <;> rfl
    | ifc _ _ => obtain ⟨c, rfl, _⟩ := hy; cases op <;> rfl
    | mp _ => obtain ⟨b, C, _, rfl⟩ := hy; cases op <;> rfl
    | nm => cases hy; cases op <;> rfl
    | agg _ => obtain ⟨c, rfl, _⟩ := hy; cases op <;> rfl
    | tup _ => obtain ⟨c, rfl, _⟩ := hy; cases op <;> rfl
/-- The values that evEq takes are none of a struct. -/
theorem evEq_agg {t : TypeId} {c : Bool} {x y : AV} {r : Bool} (h : evEq P t c x y = some r) : ∀ l, x ≠ .agg l := by
  intro l e; subst e
  unfold evEq at h
  split at h <;> simp_all
theorem evEq_ni {t : TypeId} {c : Bool} {r : Bool} (h : evEq P t c .ni .ni = some r) : c = true := by
  unfold evEq at h
  split at h <;> cases c <;> simp_all
theorem binOp_else {op : BinOp} {t : TypeId} {x y : AV} {x' y' : Value} (hx : VRel ρ x x') (hy : VRel ρ y y') {c : Bool} {r : Bool} (h : evEq P t c x y = some r) :
    (op = .eql → ∀ w, (binOp op t x' y').run P w = .ok (.bool r) w) ∧ (op = .neq → ∀ w, (binOp op t x' y').run P w = .ok (.bool (!r)) w) := by
  have hq := equal_run hx hy h
  have key : (binOp .eql t x' y' = (do pure (.bool (← Op.equal t x' y')))) ∧ (binOp .neq t x' y' = (do pure (.bool (!(← Op.equal t x' y'))))) := by
    unfold evEq at h
    split at h <;> try cases h
    all_goals first
      | (cases hx; cases hy; exact ⟨rfl, rfl⟩)
      | (cases hx; obtain ⟨b, C, _, rfl⟩ := hy; exact ⟨rfl, rfl⟩)
      | (cases hy; obtain ⟨b, C, _, rfl⟩ := hx; exact ⟨rfl, rfl⟩)
      | (cases hx; obtain ⟨b, C, _, rfl, _⟩ := hy; exact ⟨rfl, rfl⟩)
      | (cases hy; obtain ⟨b, C, _, rfl, _⟩ := hx; exact ⟨rfl, rfl⟩)
      | (cases hx; obtain ⟨b, C, o, c, _, rfl, _⟩ := hy; exact ⟨rfl, rfl⟩)
      | (cases hy; obtain ⟨b, C, o, c, _, rfl, _⟩ := hx; exact ⟨rfl, rfl⟩)
      | (cases hx; obtain ⟨c, rfl, _⟩ := hy; exact ⟨rfl, rfl⟩)
      | (cases hy; obtain ⟨c, rfl, _⟩ := hx; exact ⟨rfl, rfl⟩)
  refine ⟨?_, ?_⟩
  · rintro rfl w; rw [key.1]; simp [hq]
  · rintro rfl w; rw [key.2]; simp [hq]
theorem evRShr_run {m n : Nat} {y : Int} {yk : IntKind} {z : Int} (hz : z % 18446744073709551616 % (m : Int) = n) {v : AV} (h : evRShr m n y = some v) : ∃ u, (∀ w, (Op.shift .shr .i64 z yk y).run P w = .ok u w) ∧ VRel ρ v u := by
  unfold evRShr at h
  cases y with
  | negSucc k => cases h
  | ofNat k =>
    simp only at h
    cases hb : (Nat.ble k 63 && (Nat.beq (Nat.mod 18446744073709551616 m) 0 && (Nat.beq (Nat.mod m (Nat.pow 2 k)) 0 && Nat.ble 1 m))) with
    | false => rw [hb, cond_false] at h; cases h
    | true =>
      rw [hb, cond_true] at h; cases h
      rw [Bool.and_eq_true, Bool.and_eq_true, Bool.and_eq_true, Nat.ble_eq, Nat.beq_eq, Nat.beq_eq, Nat.ble_eq] at hb
      obtain ⟨hk, h64, hmk, hm1⟩ := hb
      have h64' : (18446744073709551616 : Nat) % m = 0 := h64
      have hmk' : m % 2 ^ k = 0 := hmk
      have hp : 0 < 2 ^ k := Nat.pow_pos (by omega)
      obtain ⟨q, hq⟩ : ∃ q, m = 2 ^ k * q := ⟨m / 2 ^ k, by have := Nat.div_add_mod m (2 ^ k); rw [hmk'] at this; omega⟩
      have hdq : Nat.div m (Nat.pow 2 k) = q := by show m / 2 ^ k = q; rw [hq]; exact Nat.mul_div_cancel_left q hp
      have hq0 : 0 < q := by
        rcases Nat.eq_zero_or_pos q with h | h
        · rw [h, Nat.mul_zero] at hq; omega
        · exact h
      have hm64 : (m : Int) ∣ 18446744073709551616 := Int.ofNat_dvd.2 (Nat.dvd_of_mod_eq_zero h64')
      have hq64 : (q : Int) ∣ 18446744073709551616 := Int.dvd_trans ⟨2 ^ k, by rw [hq]; push_cast; exact Int.mul_comm _ _⟩ hm64
      have hzm : z % (m : Int) = n := by rw [← hz, Int.emod_emod_of_dvd _ hm64]
      have hmin : min (Int.ofNat k).toNat IntKind.i64.bits = k := by show min k 64 = k; omega
      refine ⟨.int .i64 (z.fdiv (2 ^ k)), fun w => ?_, z.fdiv (2 ^ k), rfl, (fun h => nomatch h), ?_⟩
      · have hk0 : ¬ (Int.ofNat k < 0) := by simp
        simp only [Op.shift, if_neg hk0, hmin]; rfl
      · rw [hdq, Int.emod_emod_of_dvd _ hq64]
        have hpI : (0 : Int) < 2 ^ k := by exact_mod_cast hp
        rw [Int.fdiv_eq_ediv_of_nonneg _ (Int.le_of_lt hpI)]
        have e1 : z = n + 2 ^ k * (q * (z / (m : Int))) := by
          have := Int.mul_ediv_add_emod z m
          rw [hzm] at this
          have hmi : (m : Int) = 2 ^ k * q := by rw [hq]; push_cast; rfl
          rw [← Int.mul_assoc, ← hmi]; omega
        rw [e1, Int.add_mul_ediv_left _ _ (Int.ne_of_gt hpI), Int.add_mul_emod_self_left]
        have hnm : n < m := by
          have h1 : z % (m : Int) < m := Int.emod_lt_of_pos _ (by omega)
          rw [hzm] at h1; exact_mod_cast h1
        have hnq : n / 2 ^ k < q := by rw [Nat.div_lt_iff_lt_mul hp, Nat.mul_comm, ← hq]; exact hnm
        have : ((n : Int) / 2 ^ k) = ((n / 2 ^ k : Nat) : Int) := by push_cast; rfl
        rw [this, Int.emod_eq_of_lt (Int.natCast_nonneg _) (by exact_mod_cast hnq)]
        rfl
theorem evRAnd_run {m n : Nat} {j : IntKind} {y : Int} {z : Int} {t : TypeId} (hz : z % 18446744073709551616 % (m : Int) = n) {v : AV} (h : evRAnd m n j y = some v) : ∃ u, (∀ w, (binOp .and t (.int .i64 z) (.int j y)).run P w = .ok u w) ∧ VRel ρ v u := by
  unfold evRAnd at h
  cases hb : (eqK j .i64 && (eqI y (.ofNat 1) && (Nat.beq (Nat.mod m 2) 0 && (Nat.beq (Nat.mod 18446744073709551616 m) 0 && Nat.ble 1 m)))) with
  | false => rw [hb, cond_false] at h; cases h
  | true =>
    rw [hb, cond_true] at h; cases h
    rw [Bool.and_eq_true, Bool.and_eq_true, Bool.and_eq_true, Bool.and_eq_true, eqI_eq, decide_eq_true_iff, Nat.beq_eq, Nat.beq_eq, Nat.ble_eq] at hb
    obtain ⟨hj, hy, h2, _, _⟩ := hb
    have := eqK_eq hj; subst this
    subst hy
    have h2' : m % 2 = 0 := h2
    have hn : ((z % 18446744073709551616).toNat % 2) = n % 2 := by
      obtain ⟨y, hy⟩ : ∃ y : Nat, z % 18446744073709551616 = y := ⟨_, (Int.toNat_of_nonneg (Int.emod_nonneg _ (by omega))).symm⟩
      rw [hy] at hz ⊢
      have h3 : y % m = n := by exact_mod_cast hz
      rw [Int.toNat_natCast, ← h3, Nat.mod_mod_of_dvd _ (Nat.dvd_of_mod_eq_zero h2')]
    refine ⟨.int .i64 (n % 2 : Nat), fun w => ?_, rfl⟩
    have hand : (BitVec.ofInt 64 z &&& BitVec.ofInt 64 (Int.ofNat 1)).toNat = n % 2 := by
      rw [BitVec.toNat_and]
      have e1 : (BitVec.ofInt 64 (Int.ofNat 1)).toNat = 1 := by decide
      rw [e1, Nat.and_one_is_mod, BitVec.toNat_ofInt]
      exact hn
    have hwr : IntKind.i64.wrap ((n % 2 : Nat) : Int) = ((n % 2 : Nat) : Int) := IntWalk.i64_in _ (by omega)
    have key : (Op.intBits .and .i64 z (Int.ofNat 1)).run P w = .ok (.int .i64 (IntKind.i64.wrap ((BitVec.ofInt 64 z &&& BitVec.ofInt 64 (Int.ofNat 1)).toNat))) w := rfl
    rw [hand, hwr] at key
    simpa [binOp] using key
theorem evBin_run {op : BinOp} {t : TypeId} {ox oy : Operand} {x y : AV} {x' y' : Value} (hx : VRel ρ x x') (hy : VRel ρ y y') {v : AV} (h : evBin P op t (isC ox || isC oy) x y = some v) :
    ∃ u, (∀ w, (do eqGuard op t ox oy x' y'; binOp op t x' y' : Sem Value).run P w = .ok u w) ∧ VRel ρ v u := by
  have hgen : ∀ (u : Value), (∀ l, x ≠ .agg l) → (x = .ni → y = .ni → (isC ox || isC oy) = true ∨ ¬ (op = .eql ∨ op = .neq)) → (∀ w, (binOp op t x' y').run P w = .ok u w) → ∀ w, (do eqGuard op t ox oy x' y'; binOp op t x' y' : Sem Value).run P w = .ok u w := by
    intro u h1 h2 h3 w
    simp [eqGuard_run (P := P) (op := op) (t := t) (ox := ox) (oy := oy) hx hy h1 h2 w, h3 w]
  unfold evBin at h
  split at h
  · cases hx; cases hy
    split at h
    · obtain ⟨u, h1, h2⟩ := evShift_run (ρ := ρ) (P := P) (.inl rfl) h
      exact ⟨u, hgen u (by simp) (by simp) fun w => by rw [binOp_shl]; exact h1 w, h2⟩
    · obtain ⟨u, h1, h2⟩ := evShift_run (ρ := ρ) (P := P) (.inr rfl) h
      exact ⟨u, hgen u (by simp) (by simp) fun w => by rw [binOp_shr]; exact h1 w, h2⟩
    · rename_i j1 a1 k1 b1 op1 n1 n2
      cases hk : eqK j1 k1 with
      | false => simp [hk] at h
      | true =>
        rw [hk, cond_true] at h
        have := eqK_eq hk; subst this
        obtain ⟨u, h1, h2⟩ := evInt_run (ρ := ρ) (P := P) (t := t) n1 n2 h
        exact ⟨u, hgen u (by simp) (by simp) h1, h2⟩
  · obtain ⟨s1, rfl, h1⟩ := hx; obtain ⟨s2, rfl, h2⟩ := hy
    obtain ⟨u, h3, h4⟩ := evStr_run (ρ := ρ) (P := P) (t := t) h1 h2 h
    exact ⟨u, hgen u (by simp) (by simp) h3, h4⟩
  · rename_i m n j y
    obtain ⟨z, rfl, hz, hm⟩ := hx
    cases hy
    cases op <;> try cases h
    have h' : (bif eqK j .u64 && (eqI y (.ofNat m) && Nat.ble 1 m) then some (AV.i .u64 (.ofNat n)) else none) = some v := h
    clear h
    have hb : (eqK j .u64 && (eqI y (.ofNat m) && Nat.ble 1 m)) = true := by
      cases hb : (eqK j .u64 && (eqI y (.ofNat m) && Nat.ble 1 m)) with
      | false => rw [hb, cond_false] at h'; cases h'
      | true => rfl
    rw [hb, cond_true] at h'
    rw [Bool.and_eq_true, Bool.and_eq_true, eqI_eq, decide_eq_true_iff, Nat.ble_eq] at hb
    obtain ⟨hj, hy, hm1⟩ := hb
    cases h'
    have := eqK_eq hj; subst this
    subst hy
    obtain ⟨z0, z1⟩ := hz rfl
    have h2 : z % 18446744073709551616 = z := Int.emod_eq_of_lt z0 z1
    rw [h2] at hm
    have h3 : z.tmod (Int.ofNat m) = n := by rw [Int.tmod_eq_emod_of_nonneg z0]; exact hm
    have hne : (Int.ofNat m) ≠ 0 := by simp; omega
    refine ⟨.int .u64 n, hgen _ (by simp) (by simp) fun w => ?_, rfl⟩
    rw [← h3]
    simp [binOp, Op.intDiv, hne]
    omega
  · rename_i m n j y
    obtain ⟨z, rfl, _, hm⟩ := hx
    cases hy
    split at h
    · obtain ⟨u, h1, h2⟩ := evRShr_run (ρ := ρ) (P := P) (yk := j) hm h
      exact ⟨u, hgen u (by simp) (by simp) fun w => by rw [show (if false = true then IntKind.u64 else IntKind.i64) = IntKind.i64 from rfl, binOp_shr]; exact h1 w, h2⟩
    · obtain ⟨u, h1, h2⟩ := evRAnd_run (ρ := ρ) (P := P) (t := t) hm h
      exact ⟨u, hgen u (by simp) (by simp) h1, h2⟩
    · cases h
  · split at h
    · split at h <;> cases h
      rename_i r hr
      have := (binOp_else (op := .eql) hx hy hr).1 rfl
      exact ⟨_, hgen _ (evEq_agg hr) (fun e1 e2 => by subst e1; subst e2; exact .inl (evEq_ni hr)) this, rfl⟩
    · split at h <;> cases h
      rename_i r hr
      have := (binOp_else (op := .neq) hx hy hr).2 rfl
      exact ⟨_, hgen _ (evEq_agg hr) (fun e1 e2 => by subst e1; subst e2; exact .inl (evEq_ni hr)) this, rfl⟩
    · cases h
end Go.Proofs.YtmhnnfponloihaaDoor
