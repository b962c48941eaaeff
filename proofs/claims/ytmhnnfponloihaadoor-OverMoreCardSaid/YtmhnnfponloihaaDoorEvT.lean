/- What the plan tells is so. No Go program in this text. -/
import Derived.Test.YtmhnnfponloihaaDoorEvS
set_option linter.unusedSimpArgs false
set_option linter.unusedVariables false
namespace Go.Proofs.YtmhnnfponloihaaDoor
open Go.RowKit
variable {P : Program} {N : Nat} {X call : Caller} {ops : Array Oper}

/-- What statB says. -/
structure Stat (ops : Array Oper) (N : Nat) : Prop where
  grd : ∀ i, i < ops.size → (ops.getD i default).guard = none ∨ ∃ j want t, (ops.getD i default).guard = some (j, want) ∧ j < ops.size ∧ preB ops j i = true ∧ opD ops j = some t ∧ (ops[j]?).bind (·.dst) = some t
  back : ∀ i, i < ops.size → ∀ e ∈ (ops.getD i default).after, Region.binds .any e = true → e.on < i
  clo : ∀ i, i < ops.size → ∀ j, j < ops.size → preB ops j i = true → ∃ e ∈ (ops.getD i default).after, Region.binds .any e = true ∧ (e.on = j ∨ preB ops j e.on = true)
  sub : ∀ i, i < ops.size → ∀ j, j < ops.size → preB ops j i = true → Nat.lor ((Region.before ops).getD j 0) ((Region.before ops).getD i 0) = (Region.before ops).getD i 0
  acy : ∀ i, i < ops.size → preB ops i i = false
  dst : ∀ i, i < ops.size → ∀ d, opD ops i = some d → d < N ∧ ∀ j, j < ops.size → opD ops j = some d → i = j
  opr : ∀ i, i < ops.size → ∀ t ∈ opTmps (opO ops i), ∀ k, k < ops.size → opD ops k = some t → preB ops k i = true ∨ preB ops i k = true ∨ k = i
  chn : ∀ i, i < ops.size → chB ops i = true → ∀ j, j < ops.size → chB ops j = true → i = j ∨ preB ops i j = true ∨ preB ops j i = true
  knd : ∀ i, i < ops.size → knd ops i ≤ 2
theorem pre_bit {i j : Nat} : preB ops j i = true ↔ i < ops.size ∧ bitB ops j i := by
  unfold preB bitB
  rw [Bool.and_eq_true, Nat.ble_eq]; rfl
theorem stat_is (h : statB ops N = true) : Stat ops N := by
  have hat : ∀ i (hi : i < ops.size), ops.toList[i]? = some (ops.getD i default) := fun i hi => by simp [Array.getD, hi]
  have hat' : ∀ i (hi : i < ops.size), ops[i]? = some (ops.getD i default) := fun i hi => by simp [Array.getD, hi]
  have h0 : ∀ i, i < ops.size → stat1 ops N (chMask 0 ops.toList) ((Region.before ops).getD i 0) i (ops.getD i default) = true := fun i hi => by
    have := allI_is (k := 0) h i _ (hat i hi)
    rw [Nat.zero_add] at this; exact this
  have hB : BackOk ops := by
    intro i o ho e he hb
    have hi : i < ops.size := (Array.getElem?_eq_some_iff.1 ho).1
    have q := h0 i hi
    rw [hat' i hi] at ho; cases ho
    unfold stat1 at q
    simp only [Bool.and_eq_true] at q
    have := List.all_eq_true.1 q.2.1 e (by simpa using he)
    rw [hb, Bool.not_true, Bool.false_or, Nat.ble_eq] at this
    exact this
  refine ⟨fun i hi => ?_, fun i hi e he hb => hB i _ (hat' i hi) e he hb, fun i hi j hj hp => ?_, fun i hi j hj hp => ?_, fun i hi => ?_, fun i hi d hd => ?_, fun i hi t ht k hk hd => ?_, fun i hi hc j hj hcj => ?_, fun i hi => ?_⟩
  · have q := h0 i hi; unfold stat1 at q; simp only [Bool.and_eq_true] at q
    have q1 := q.1
    unfold gdB at q1
    cases hg : (ops.getD i default).guard with
    | none => exact .inl rfl
    | some jw =>
      obtain ⟨j, want⟩ := jw
      rw [hg] at q1
      simp only [Bool.and_eq_true] at q1
      obtain ⟨q2, q3⟩ := q1
      cases hb : (ops[j]?).bind (·.dst) with
      | none => rw [hb] at q3; cases q3
      | some t =>
        have hj : j < ops.size := by
          cases hh : ops[j]? with
          | none => rw [hh] at hb; cases hb
          | some o => exact (Array.getElem?_eq_some_iff.1 hh).1
        refine .inr ⟨j, want, t, rfl, hj, pre_bit.2 ⟨hi, ?_⟩, ?_, hb⟩
        · rw [tb_eq] at q2; exact q2
        · unfold opD
          rw [Array.getElem?_eq_getElem hj] at hb
          simpa [Array.getD, hj] using hb
  · obtain ⟨e, he, hb, h1⟩ := (bit_is hB (hat' i hi)).1 (pre_bit.1 hp).2
    have hlt := hB i _ (hat' i hi) e he hb
    exact ⟨e, he, hb, h1.imp id fun h2 => pre_bit.2 ⟨by omega, h2⟩⟩
  · apply Nat.eq_of_testBit_eq
    intro k
    have e : Nat.lor ((Region.before ops).getD j 0) ((Region.before ops).getD i 0) = ((Region.before ops).getD j 0) ||| ((Region.before ops).getD i 0) := rfl
    rw [e, Nat.testBit_or]
    cases hk : ((Region.before ops).getD j 0).testBit k with
    | false => simp
    | true =>
      have := bit_trans hB (pre_bit.1 hp).2 (k := k) hk
      unfold bitB at this
      rw [this]; rfl
  · cases hp : preB ops i i with
    | false => rfl
    | true => exact absurd (bit_lt hB (pre_bit.1 hp).2) (Nat.lt_irrefl _)
  · have q := h0 i hi; unfold stat1 at q; simp only [Bool.and_eq_true] at q
    have q6 := q.2.2.1
    have hd' : (ops.getD i default).dst = some d := hd
    rw [hd'] at q6
    simp only [Bool.and_eq_true, Nat.ble_eq] at q6
    refine ⟨q6.1, fun j hj hdj => ?_⟩
    have := allI_is (k := 0) q6.2 j _ (hat j hj)
    have hdj' : (ops.getD j default).dst = some d := hdj
    rw [hdj'] at this
    simp only [Nat.zero_add, Bool.or_eq_true, Nat.beq_eq, Bool.not_eq_true'] at this
    rcases this with h1 | h1
    · rw [beq_t rfl] at h1; cases h1
    · exact h1
  · have q := h0 i hi; unfold stat1 at q; simp only [Bool.and_eq_true] at q
    have := allI_is (k := 0) (List.all_eq_true.1 q.2.2.2.1 t ht) k _ (hat k hk)
    have hd' : (ops.getD k default).dst = some t := hd
    rw [hd'] at this
    simp only [Nat.zero_add, Bool.or_eq_true, Nat.beq_eq, Bool.not_eq_true'] at this
    rcases this with h1 | h1 | h1 | h1
    · rw [beq_t rfl] at h1; cases h1
    · rw [tb_eq] at h1; exact .inl (pre_bit.2 ⟨hi, h1⟩)
    · exact .inr (.inl h1)
    · exact .inr (.inr h1)
  · have key : ∀ i j, i < ops.size → j < ops.size → chB ops i = true → chB ops j = true → j < i → preB ops j i = true := by
      intro i j hi hj hc hcj hlt
      have q := h0 i hi; unfold stat1 at q; simp only [Bool.and_eq_true] at q
      have q8 := q.2.2.2.2.1
      have hc' : Nat.beq (kindOf (ops.getD i default).op) 2 = true := hc
      rw [hc', Bool.not_true, Bool.false_or] at q8
      have hcj' : kindOf (ops.getD j default).op = 2 := by have : Nat.beq (kindOf (ops.getD j default).op) 2 = true := hcj; rwa [Nat.beq_eq] at this
      have hbit := chMask_is (k := 0) (hat j hj) hcj'
      rw [Nat.zero_add] at hbit
      refine pre_bit.2 ⟨hi, land_is q8 (j := j) ?_⟩
      have e : chMask 0 ops.toList % Nat.pow 2 i = chMask 0 ops.toList % 2 ^ i := rfl
      rw [e, Nat.testBit_mod_two_pow, hbit]; simp [hlt]
    rcases Nat.lt_trichotomy i j with h1 | h1 | h1
    · exact .inr (.inl (key j i hj hi hcj hc h1))
    · exact .inl h1
    · exact .inr (.inr (key i j hi hj hc hcj h1))
  · have q := h0 i hi; unfold stat1 at q; simp only [Bool.and_eq_true] at q
    have := q.2.2.2.2.2
    rw [Nat.ble_eq] at this; exact this
/-- Ahead of. -/
def Pre (ops : Array Oper) (j i : Nat) : Prop := j < ops.size ∧ preB ops j i = true
theorem preB_lt {i j : Nat} (h : preB ops j i = true) : i < ops.size := by
  unfold preB at h
  rw [Bool.and_eq_true, Nat.ble_eq] at h; exact h.1
theorem dir_is {i j : Nat} : Dir ops j i ↔ i < ops.size ∧ ∃ e ∈ (ops.getD i default).after, Region.binds .any e = true ∧ e.on = j := by
  unfold Dir
  constructor
  · rintro ⟨o, ho, e, he, hb, hj⟩
    have hi : i < ops.size := (Array.getElem?_eq_some_iff.1 ho).1
    have : ops.getD i default = o := by
      have := (Array.getElem?_eq_some_iff.1 ho).2
      simp [Array.getD, hi, this]
    exact ⟨hi, e, by rw [this]; exact he, hb, hj⟩
  · rintro ⟨hi, e, he, hb, hj⟩
    refine ⟨ops[i], Array.getElem?_eq_getElem hi, e, ?_, hb, hj⟩
    simpa [Array.getD, hi] using he
theorem waits_is (S : Stat ops N) : Waits ops (Pre ops) := by
  refine ⟨fun j i h => ?_, fun j i h hi => ?_⟩
  · obtain ⟨hi, e, he, hb, rfl⟩ := dir_is.1 h
    exact S.back i hi e he hb
  · obtain ⟨e, he, hb, h1⟩ := S.clo i hi j h.1 h.2
    refine ⟨e.on, dir_is.2 ⟨hi, e, he, hb, rfl⟩, ?_⟩
    rcases h1 with h1 | h1
    · exact .inl h1.symm
    · exact .inr ⟨h.1, h1⟩
theorem pre_trans (S : Stat ops N) {i j k : Nat} (h1 : Pre ops i j) (h2 : Pre ops j k) : Pre ops i k := by
  refine ⟨h1.1, ?_⟩
  have hk := preB_lt h2.2
  have hs := S.sub k hk j h2.1 h2.2
  have a := h1.2
  unfold preB at a ⊢
  rw [Bool.and_eq_true] at a ⊢
  refine ⟨by rw [Nat.ble_eq]; exact hk, ?_⟩
  rw [← hs]
  have : Nat.lor ((Region.before ops).getD j 0) ((Region.before ops).getD k 0) = (Region.before ops).getD j 0 ||| (Region.before ops).getD k 0 := rfl
  rw [this, Nat.testBit_or, a.2]; rfl
/-- One step of the plan. -/
structure StepIs (P : Program) (X call : Caller) (N : Nat) (ops : Array Oper) (i : Nat) (s : PS) (r : Rec) (s1 : PS) : Prop where
  ri : r.i = i
  rc : r.c = s.nx
  rc' : r.c' = s1.nx
  le : s.nx ≤ s1.nx
  rst_ : r.st = s.st
  slr : r.slr = rst s.sl (opTmps (opO ops i))
  put : putD N (opD ops i) r.v s.sl = some s1.sl
  gd : evWanted ops (ops.getD i default) s.sl = some r.w
  uw : r.w = false → r.v = .tup .nil ∧ r.blk = none ∧ (knd ops i = 2 → r.st' = r.st)
  z0 : knd ops i = 0 → (r.w = true → ∃ h1, evM P r.slr .nil r.c (opO ops i) = .ok r.v h1 r.c' ∧ ∀ x, r.blk = some x → r.c < r.c' ∧ h1.get r.c = some x) ∧ s1.Ks = s.Ks ∧
    ((∃ b, r.blk = some b ∧ s1.st = s.st.put r.c b ∧ s1.pend = r :: s.pend ∧ ∀ K ∈ s.Ks, K.2.get r.c = none) ∨ (r.blk = none ∧ s1.st = s.st ∧ s1.pend = s.pend))
  z1 : knd ops i = 1 → r.blk = none ∧ s1.Ks = s.Ks ∧ s1.st = s.st ∧ s1.pend = s.pend ∧ (r.w = true → ∃ t x p, opO ops i = .load t x ∧ evX r.slr x = some p ∧ (ldAll P ops i t p s.Ks = some r.v ∨ ∃ q ∈ s.pend, ∃ b, q.blk = some b ∧ preB ops q.i i = true ∧ standB ops q.i i = true ∧ evLoad P (nilH.put q.c b) t p = some r.v))
  z2 : knd ops i = 2 → r.blk = none ∧ (r.w = true → evOper P X call r.slr r.st r.c (opO ops i) = .ok r.v r.st' r.c') ∧ s1.st = r.st' ∧ s1.Ks = (i, r.st') :: s.Ks ∧ s1.pend = []
theorem step1_is {i : Nat} {s s1 : PS} {r : Rec} (hk : knd ops i ≤ 2) (hg : evWanted ops (ops.getD i default) s.sl = some true) (e : evStep1 P X call N ops i s = some (r, s1)) : StepIs P X call N ops i s r s1 := by
  unfold evStep1 at e
  split at e
  · rename_i hk0
    have hk0' : knd ops i = 0 := hk0
    split at e
    · rename_i v h1 nx1 he
      split at e
      · rename_i sl1 hput
        obtain ⟨hle, e2⟩ := bif_some' e
        clear e; have e := e2; clear e2
        rw [Nat.ble_eq] at hle
        split at e
        · rename_i b hb
          obtain ⟨hall, e⟩ := bif_some e
          cases e
          obtain ⟨hq, hb⟩ := bif_some' hb
          rw [Nat.beq_eq] at hq
          refine ⟨rfl, rfl, rfl, hle, rfl, rfl, hput, hg, (fun h => nomatch h), fun _ => ⟨fun _ => ⟨h1, he, fun x hx => ?_⟩, rfl, .inl ⟨b, rfl, rfl, rfl, fun K hK => ?_⟩⟩, fun h => ?_, fun h => ?_⟩
          · cases hx; exact ⟨by rw [hq]; exact Nat.lt_succ_self _, hb⟩
          · have := List.all_eq_true.1 hall K hK
            simpa using this
          · rw [hk0'] at h; cases h
          · rw [hk0'] at h; cases h
        · cases e
          refine ⟨rfl, rfl, rfl, hle, rfl, rfl, hput, hg, (fun h => nomatch h), fun _ => ⟨fun _ => ⟨h1, he, fun x hx => by cases hx⟩, rfl, .inr ⟨rfl, rfl, rfl⟩⟩, fun h => ?_, fun h => ?_⟩
          · rw [hk0'] at h; cases h
          · rw [hk0'] at h; cases h
      · cases e
    · cases e
  · rename_i hk0
    have hk0' : knd ops i = 1 := hk0
    split at e
    · rename_i t x ho
      split at e
      · rename_i p hp
        split at e
        · rename_i v hv
          split at e
          · rename_i sl1 hput
            cases e
            refine ⟨rfl, rfl, rfl, Nat.le_refl _, rfl, rfl, hput, hg, (fun h => nomatch h), fun h => ?_, fun _ => ⟨rfl, rfl, rfl, rfl, fun _ => ⟨t, x, p, ho, hp, ?_⟩⟩, fun h => ?_⟩
            rotate_left
            · unfold ldAny at hv
              split at hv
              · rename_i v' hv'; cases hv; exact .inl hv'
              · exact .inr (ldPend_is hv)
            · rw [hk0'] at h; cases h
            · rw [hk0'] at h; cases h
          · cases e
        · cases e
      · cases e
    · cases e
  · rename_i n0 n1
    have hk2 : knd ops i = 2 := by
      have h0 : knd ops i ≠ 0 := n0
      have h1 : knd ops i ≠ 1 := n1
      omega
    split at e
    · rename_i v h1 nx1 he
      split at e
      · rename_i sl1 hput
        obtain ⟨hle, e⟩ := bif_some e
        cases e
        rw [Nat.ble_eq] at hle
        refine ⟨rfl, rfl, rfl, hle, rfl, rfl, hput, hg, (fun h => nomatch h), fun h => ?_, fun h => ?_, fun _ => ⟨rfl, fun _ => he, rfl, rfl, rfl⟩⟩
        · rw [hk2] at h; cases h
        · rw [hk2] at h; cases h
      · cases e
    · cases e
theorem step_is {i : Nat} {s s1 : PS} {r : Rec} (hk : knd ops i ≤ 2) (e : evStep P X call N ops i s = some (r, s1)) : StepIs P X call N ops i s r s1 := by
  unfold evStep at e
  split at e
  · rename_i hg; exact step1_is hk hg e
  · rename_i hg
    unfold evSkip at e
    split at e
    · rename_i sl1 hput
      cases hb : Nat.beq (knd ops i) 2 with
      | true =>
        rw [hb, cond_true] at e; cases e
        rw [Nat.beq_eq] at hb
        exact ⟨rfl, rfl, rfl, Nat.le_refl _, rfl, rfl, hput, hg, fun _ => ⟨rfl, rfl, fun _ => rfl⟩, (fun h => by rw [hb] at h; cases h), (fun h => by rw [hb] at h; cases h), fun _ => ⟨rfl, (fun h => nomatch h), rfl, rfl, rfl⟩⟩
      | false =>
        rw [hb, cond_false] at e; cases e
        exact ⟨rfl, rfl, rfl, Nat.le_refl _, rfl, rfl, hput, hg, fun _ => ⟨rfl, rfl, fun _ => rfl⟩, fun _ => ⟨(fun h => nomatch h), rfl, .inr ⟨rfl, rfl, rfl⟩⟩, fun _ => ⟨rfl, rfl, rfl, rfl, fun h => nomatch h⟩, (fun h => by rw [h] at hb; cases hb)⟩
    · cases e
  · cases e
/-- The memories of those of the third kind, the newest first. -/
def KL (ops : Array Oper) (H0 : T AO) : List Rec → List (Nat × T AO)
  | [] => [(ops.size, H0)]
  | r :: rs => bif chB ops r.i then (r.i, r.st') :: KL ops H0 rs else KL ops H0 rs
/-- How many of the third kind. -/
def cntL (ops : Array Oper) : List Rec → Nat
  | [] => 0
  | r :: rs => bif chB ops r.i then cntL ops rs + 1 else cntL ops rs
theorem KL_len {H0 : T AO} : ∀ (rs : List Rec), (KL ops H0 rs).length = cntL ops rs + 1
  | [] => rfl
  | r :: rs => by
    simp only [KL, cntL]
    cases chB ops r.i
    · simpa using KL_len rs
    · simpa using KL_len rs
/-- What holds when those of rs are done (the newest first). -/
structure Good (ops : Array Oper) (N : Nat) (sl0 : T AV) (H0 : T AO) (nx0 : Nat) (rs : List Rec) (s : PS) : Prop where
  ids : ∀ r ∈ rs, r.i < ops.size
  dif : rs.Pairwise fun a b => a.i ≠ b.i
  rng : ∀ r ∈ rs, nx0 ≤ r.c ∧ r.c ≤ r.c' ∧ r.c' ≤ s.nx
  nx : nx0 ≤ s.nx
  apt : rs.Pairwise fun a b => b.c' ≤ a.c
  sl1 : ∀ r ∈ rs, ∀ t, opD ops r.i = some t → s.sl.get t = some r.v
  sl2 : ∀ t, (∀ r ∈ rs, opD ops r.i ≠ some t) → s.sl.get t = sl0.get t
  Ks : s.Ks = KL ops H0 rs
  mem : ∀ id x, s.st.get id = some x → (∃ j K tl, s.Ks = (j, K) :: tl ∧ K.get id = some x) ∨ ∃ r ∈ s.pend, r.c = id ∧ r.blk = some x
  pnd : ∀ r ∈ s.pend, r ∈ rs ∧ ∀ q ∈ rs, chB ops q.i = true → preB ops r.i q.i = false
/-- What is known of one, those ahead of it being rs. -/
structure RecOk (P : Program) (X call : Caller) (N : Nat) (ops : Array Oper) (sl0 : T AV) (H0 : T AO) (rs : List Rec) (r : Rec) : Prop where
  sl : ∀ t x, r.slr.get t = some x → (∃ q ∈ rs, preB ops q.i r.i = true ∧ opD ops q.i = some t ∧ q.v = x) ∨ ((∀ k, k < ops.size → opD ops k = some t → k = r.i ∨ preB ops r.i k = true) ∧ sl0.get t = some x)
  gd : ((ops.getD r.i default).guard = none ∧ r.w = true) ∨ ∃ j want t, (ops.getD r.i default).guard = some (j, want) ∧ j < ops.size ∧ preB ops j r.i = true ∧ opD ops j = some t ∧ ∃ q ∈ rs, q.i = j ∧ ((∃ x, q.v = .b x ∧ r.w = (x == want)) ∨ ∃ l, q.v = .tup l ∧ r.w = false)
  uw : r.w = false → r.v = .tup .nil ∧ r.blk = none ∧ (knd ops r.i = 2 → r.st' = r.st)
  z0 : knd ops r.i = 0 → r.w = true → ∃ h1, evM P r.slr .nil r.c (opO ops r.i) = .ok r.v h1 r.c' ∧ ∀ x, r.blk = some x → r.c < r.c' ∧ h1.get r.c = some x
  frs : ∀ x, r.blk = some x → knd ops r.i = 0 ∧ ∀ K ∈ KL ops H0 rs, K.2.get r.c = none
  z1 : knd ops r.i = 1 → r.w = true → ∃ t x p, opO ops r.i = .load t x ∧ evX r.slr x = some p ∧ (ldAll P ops r.i t p (KL ops H0 rs) = some r.v ∨ ∃ q ∈ rs, ∃ b, q.blk = some b ∧ preB ops q.i r.i = true ∧ standB ops q.i r.i = true ∧ evLoad P (nilH.put q.c b) t p = some r.v)
  z2 : knd ops r.i = 2 → r.w = true → evOper P X call r.slr r.st r.c (opO ops r.i) = .ok r.v r.st' r.c'
  mem : knd ops r.i = 2 → ∀ id x, r.st.get id = some x → (∃ j K tl, KL ops H0 rs = (j, K) :: tl ∧ K.get id = some x) ∨ ∃ q ∈ rs, q.c = id ∧ q.blk = some x ∧ preB ops q.i r.i = true ∧ ∀ p ∈ rs, chB ops p.i = true → preB ops q.i p.i = false
  prf : ∀ j, j < ops.size → preB ops j r.i = true → ∃ q ∈ rs, q.i = j
  chp : chB ops r.i = true → ∀ q ∈ rs, preB ops q.i r.i = true
theorem putD_get {dst : Option Nat} {v : AV} {sl sl' : T AV} (e : putD N dst v sl = some sl') : ∀ t, sl'.get t = if dst = some t then some v else sl.get t := by
  intro t
  unfold putD at e
  split at e
  · cases e; simp
  · rename_i d
    obtain ⟨_, e⟩ := bif_some' e
    rw [T.seq_eq] at e; cases e
    rw [T.get_put]
    by_cases h : t = d
    · subst h; simp
    · rw [if_neg h, if_neg (fun q => h (by cases q; rfl))]
theorem good_step (S : Stat ops N) {sl0 : T AV} {H0 : T AO} {nx0 : Nat} {rs : List Rec} {s s1 : PS} {i : Nat} {r : Rec} (G : Good ops N sl0 H0 nx0 rs s) (hi : i < ops.size) (hnew : ∀ q ∈ rs, q.i ≠ i)
    (hpre : ∀ j, j < ops.size → preB ops j i = true → ∃ q ∈ rs, q.i = j) (hch : chB ops i = true → ∀ q ∈ rs, preB ops q.i i = true) (hord : ∀ q ∈ rs, preB ops i q.i = false)
    (T : StepIs P X call N ops i s r s1) : Good ops N sl0 H0 nx0 (r :: rs) s1 ∧ RecOk P X call N ops sl0 H0 rs r := by
  have hri := T.ri
  have hk := S.knd i hi
  have hput := putD_get T.put
  have hkk : knd ops i = 0 ∨ knd ops i = 1 ∨ knd ops i = 2 := by omega
  have hcb : chB ops i = true ↔ knd ops i = 2 := by unfold chB; rw [Nat.beq_eq]
  constructor
  · refine ⟨?_, ?_, ?_, Nat.le_trans G.nx T.le, ?_, ?_, ?_, ?_, ?_, ?_⟩
    · intro q hq
      rcases List.mem_cons.1 hq with rfl | hq
      · rw [hri]; exact hi
      · exact G.ids q hq
    · rw [List.pairwise_cons]
      exact ⟨fun q hq e => hnew q hq (by rw [← hri, e]), G.dif⟩
    · intro q hq
      rcases List.mem_cons.1 hq with rfl | hq
      · rw [T.rc, T.rc']; exact ⟨G.nx, T.le, Nat.le_refl _⟩
      · obtain ⟨h1, h2, h3⟩ := G.rng q hq
        exact ⟨h1, h2, Nat.le_trans h3 T.le⟩
    · rw [List.pairwise_cons]
      exact ⟨fun q hq => by rw [T.rc]; exact (G.rng q hq).2.2, G.apt⟩
    · intro q hq t ht
      rw [hput t]
      rcases List.mem_cons.1 hq with rfl | hq
      · rw [hri] at ht; rw [if_pos ht]
      · rw [if_neg]
        · exact G.sl1 q hq t ht
        · intro h
          exact hnew q hq ((S.dst i hi t h).2 q.i (G.ids q hq) ht).symm
    · intro t ht
      rw [hput t, if_neg (by rw [← hri]; exact ht r (List.mem_cons_self ..))]
      exact G.sl2 t fun q hq => ht q (List.mem_cons_of_mem _ hq)
    · simp only [KL, hri]
      rcases hkk with h | h | h
      · have : chB ops i = false := by cases hc : chB ops i <;> simp_all
        rw [this, cond_false, (T.z0 h).2.1, G.Ks]
      · have : chB ops i = false := by cases hc : chB ops i <;> simp_all
        rw [this, cond_false, (T.z1 h).2.1, G.Ks]
      · rw [hcb.2 h, cond_true, (T.z2 h).2.2.2.1, G.Ks]
    · intro id x e
      rcases hkk with h | h | h
      · obtain ⟨_, hKs, h1⟩ := T.z0 h
        rcases h1 with ⟨b, hb, hst, hpd, _⟩ | ⟨_, hst, hpd⟩
        · rw [hst, Go.Proofs.YtmhnnfponloihaaDoor.T.get_put] at e
          split at e
          · rename_i hid
            cases e
            exact .inr ⟨r, by rw [hpd]; exact List.mem_cons_self .., hid.symm, hb⟩
          · rcases G.mem id x e with ⟨j, K, tl, h2, h3⟩ | ⟨q, hq, h2⟩
            · exact .inl ⟨j, K, tl, by rw [hKs]; exact h2, h3⟩
            · exact .inr ⟨q, by rw [hpd]; exact List.mem_cons_of_mem _ hq, h2⟩
        · rw [hst] at e
          rcases G.mem id x e with ⟨j, K, tl, h2, h3⟩ | ⟨q, hq, h2⟩
          · exact .inl ⟨j, K, tl, by rw [hKs]; exact h2, h3⟩
          · exact .inr ⟨q, by rw [hpd]; exact hq, h2⟩
      · obtain ⟨_, hKs, hst, hpd, _⟩ := T.z1 h
        rw [hst] at e
        rcases G.mem id x e with ⟨j, K, tl, h2, h3⟩ | ⟨q, hq, h2⟩
        · exact .inl ⟨j, K, tl, by rw [hKs]; exact h2, h3⟩
        · exact .inr ⟨q, by rw [hpd]; exact hq, h2⟩
      · obtain ⟨_, _, hst, hKs, hpd⟩ := T.z2 h
        rw [hst] at e
        exact .inl ⟨i, r.st', s.Ks, hKs, e⟩
    · intro q hq
      have old : q ∈ s.pend → knd ops i ≠ 2 → q ∈ r :: rs ∧ ∀ p ∈ r :: rs, chB ops p.i = true → preB ops q.i p.i = false := by
        intro hq hne
        obtain ⟨h1, h2⟩ := G.pnd q hq
        refine ⟨List.mem_cons_of_mem _ h1, fun p hp hc => ?_⟩
        rcases List.mem_cons.1 hp with rfl | hp
        · rw [hri] at hc; exact absurd (hcb.1 hc) hne
        · exact h2 p hp hc
      rcases hkk with h | h | h
      · obtain ⟨_, _, h1⟩ := T.z0 h
        rcases h1 with ⟨b, _, _, hpd, _⟩ | ⟨_, _, hpd⟩
        · rw [hpd] at hq
          rcases List.mem_cons.1 hq with rfl | hq
          · refine ⟨List.mem_cons_self .., fun p hp hc => ?_⟩
            rcases List.mem_cons.1 hp with rfl | hp
            · rw [hri] at hc; rw [hcb.1 hc] at h; cases h
            · rw [hri]; exact hord p hp
          · exact old hq (by omega)
        · rw [hpd] at hq; exact old hq (by omega)
      · obtain ⟨_, _, _, hpd, _⟩ := T.z1 h
        rw [hpd] at hq; exact old hq (by omega)
      · obtain ⟨_, _, _, _, hpd⟩ := T.z2 h
        rw [hpd] at hq; cases hq
  · refine ⟨?_, ?_, ?_, ?_, ?_, ?_, ?_, ?_, ?_, ?_⟩ <;> rw [hri]
    · intro t x e
      rw [T.slr] at e
      obtain ⟨h1, h2⟩ := rst_get _ e
      by_cases hex : ∃ q ∈ rs, opD ops q.i = some t
      · obtain ⟨q, hq, hd⟩ := hex
        have hqi := G.ids q hq
        have := G.sl1 q hq t hd
        rw [h2] at this; cases this
        rcases S.opr i hi t h1 q.i hqi hd with hp | hp | hp
        · exact .inl ⟨q, hq, hp, hd, rfl⟩
        · rw [hord q hq] at hp; cases hp
        · exact absurd hp (hnew q hq)
      · rw [G.sl2 t fun q hq hd => hex ⟨q, hq, hd⟩] at h2
        by_cases hw : ∃ k, k < ops.size ∧ opD ops k = some t
        · obtain ⟨k, hk, hd⟩ := hw
          refine .inr ⟨fun k' hk' hd' => ?_, h2⟩
          rcases S.opr i hi t h1 k' hk' hd' with hp | hp | hp
          · obtain ⟨q, hq, rfl⟩ := hpre k' hk' hp
            exact absurd ⟨q, hq, hd'⟩ hex
          · exact .inr hp
          · exact .inl hp
        · exact .inr ⟨fun k' hk' hd' => absurd ⟨k', hk', hd'⟩ hw, h2⟩
    · rcases S.grd i hi with hg | ⟨j, want, t, hg, hj, hp, hd, hb⟩
      · refine .inl ⟨hg, ?_⟩
        have := T.gd
        unfold evWanted at this
        rw [hg] at this
        exact (Option.some.inj this).symm
      · obtain ⟨q, hq, hqi⟩ := hpre j hj hp
        have hs := G.sl1 q hq t (by rw [hqi]; exact hd)
        refine .inr ⟨j, want, t, hg, hj, hp, hd, q, hq, hqi, ?_⟩
        have := T.gd
        unfold evWanted at this
        rw [hg] at this
        simp only [hb, hs] at this
        split at this
        · rename_i x hx
          refine .inl ⟨x, Option.some.inj hx, ?_⟩
          exact (Option.some.inj this).symm
        · rename_i l hx
          refine .inr ⟨l, Option.some.inj hx, ?_⟩
          exact (Option.some.inj this).symm
        · cases this
    · exact T.uw
    · exact fun h => (T.z0 h).1
    · intro x hx
      rcases hkk with h | h | h
      · refine ⟨h, fun K hK => ?_⟩
        rcases (T.z0 h).2.2 with ⟨b, _, _, _, h2⟩ | ⟨hb, _⟩
        · exact h2 K (by rw [G.Ks]; exact hK)
        · rw [hb] at hx; cases hx
      · rw [(T.z1 h).1] at hx; cases hx
      · rw [(T.z2 h).1] at hx; cases hx
    · intro h
      intro hw
      obtain ⟨_, _, _, _, hz⟩ := T.z1 h
      obtain ⟨t, x, p, h1, h2, h3⟩ := hz hw
      refine ⟨t, x, p, h1, h2, ?_⟩
      rcases h3 with h3 | ⟨q, hq, h3⟩
      · exact .inl (by rw [← G.Ks]; exact h3)
      · exact .inr ⟨q, (G.pnd q hq).1, h3⟩
    · exact fun h => (T.z2 h).2.1
    · intro h id x e
      rw [T.rst_] at e
      rcases G.mem id x e with ⟨j, K, tl, h2, h3⟩ | ⟨q, hq, h2, h3⟩
      · exact .inl ⟨j, K, tl, by rw [← G.Ks]; exact h2, h3⟩
      · obtain ⟨h4, h5⟩ := G.pnd q hq
        exact .inr ⟨q, h4, h2, h3, hch (hcb.2 h) q h4, h5⟩
    · exact hpre
    · exact hch
end Go.Proofs.YtmhnnfponloihaaDoor
