/- A region that draws its order: whatever the order, what the plan has told. No Go program in this text. -/
import Derived.Test.YtmhnnfponloihaaDoorEvP
set_option linter.unusedSimpArgs false
set_option linter.unusedVariables false
namespace Go.Proofs.YtmhnnfponloihaaDoor
open Go.RowKit
variable {P : Program} {N : Nat}

/-- 0: it reads slots alone (and may make a block); 1: a load; 2: all else. -/
def kindOf : Op → Nat
  | .load _ _ => 1
  | .move _ => 0
  | .assign _ => 0
  | .pick _ _ _ => 0
  | .alloc _ => 0
  | .box _ _ => 0
  | .build _ _ => 0
  | .buildSlice _ _ _ => 0
  | .nilCheck _ => 0
  | .binOp _ _ _ _ _ => 0
  | .unOp _ _ _ => 0
  | .convert _ _ _ => 0
  | .makeInterface _ _ => 0
  | .makeFunc _ _ _ => 0
  | .makeSlice _ _ _ => 0
  | .slice _ _ _ _ _ => 0
  | .fieldAddr _ _ _ => 0
  | .field _ _ _ => 0
  | .indexAddr _ _ _ => 0
  | .index _ _ _ => 0
  | .extract _ _ => 0
  | .typeAssert _ _ _ _ => 0
  | .call c => match c.callee with
    | .builtin .len => 0
    | .builtin .cap => 0
    | .builtin .min => 0
    | .builtin .max => 0
    | _ => 2
  | _ => 2
/-- One memory over another one: what was H is H' now, all else as in G. -/
def Heap.over (H H' G : Heap) : Heap := fun id => match H' id with
  | some o => some o
  | none => match H id with
    | some _ => none
    | none => G id
def Heap.le (H G : Heap) : Prop := ∀ id o, H id = some o → G id = some o
theorem Rel.sub {ρ : Map} {H G : Heap} {w : World} (h : Rel ρ G w) (k : Heap.le H G) : Rel ρ H w :=
  ⟨fun id o e => h.has id o (k id o e), fun i j o o' b C D e1 e2 => h.inj i j o o' b C D (k i o e1) (k j o' e2)⟩
/-- A step of a part of memory is a step of the whole. -/
theorem Stp.over {ρ ρ' : Map} {H H' G : Heap} {w w' : World} {c c' : Nat} (hG : Rel ρ G w) (hle : Heap.le H G) (hs : Stp ρ ρ' H H' w w' c c') (hfr : Fr ρ c c') : Rel ρ' (Heap.over H H' G) w' ∧ (∀ b, b < w.heap.size → (∀ id o C, G id = some o → ρ id ≠ some (b, C)) → w'.heap[b]? = w.heap[b]?) ∧
      (∀ id o b C, Heap.over H H' G id = some o → ρ' id = some (b, C) → w.heap.size ≤ b ∨ ∃ j o' D, G j = some o' ∧ ρ j = some (b, D)) := by
  have lt : ∀ id o b C, G id = some o → ρ id = some (b, C) → b < w.heap.size := by
    intro id o b C e1 e2
    obtain ⟨b', C', ob, h1, h2, _⟩ := hG.has id o e1
    rw [h1] at e2; cases e2
    exact (Array.getElem?_eq_some_iff.1 h2).1
  -- what is of G alone
  have ga : ∀ id o, Heap.over H H' G id = some o → (H' id = some o) ∨ (H' id = none ∧ H id = none ∧ G id = some o) := by
    intro id o e
    unfold Heap.over at e
    cases h1 : H' id with
    | some x => simp only [h1] at e; exact .inl e
    | none =>
      simp only [h1] at e
      cases h2 : H id with
      | some y => simp [h2] at e
      | none => simp only [h2] at e; exact .inr ⟨rfl, rfl, e⟩
  have old : ∀ id o, H' id = none → H id = none → G id = some o → ρ' id = ρ id := by
    intro id o h1 h2 h3
    exact hs.out id fun hc => by
      obtain ⟨b, C, ob, k1, _⟩ := hG.has id o h3
      rw [hfr id hc.1 hc.2] at k1; cases k1
  have apart : ∀ id o b C, H id = none → G id = some o → ρ id = some (b, C) → ∀ j o' D, H j = some o' → ρ j ≠ some (b, D) := by
    intro id o b C h1 h2 h3 j o' D h4 h5
    have := hG.inj id j o o' b C D h2 (hle j o' h4) h3 h5
    subst this
    rw [h1] at h4; cases h4
  have newb : ∀ id o b C, H' id = some o → ρ' id = some (b, C) → ∀ j o' D, H j = none → G j = some o' → ρ j ≠ some (b, D) := by
    intro id o b C h1 h2 j o' D h3 h4 h5
    rcases hs.new id o b C h1 h2 with h6 | ⟨k, ok, E, h6, h7⟩
    · have := lt j o' b D h4 h5; omega
    · exact apart j o' b D h3 h4 h5 k ok E h6 h7
  refine ⟨⟨?_, ?_⟩, ?_, ?_⟩
  · intro id o e
    rcases ga id o e with h1 | ⟨h1, h2, h3⟩
    · exact hs.rel.has id o h1
    · obtain ⟨b, C, ob, k1, k2, k3⟩ := hG.has id o h3
      refine ⟨b, C, ob, hs.le _ _ k1, ?_, k3.mono hs.le⟩
      rw [hs.keep b (lt id o b C h3 k1) fun j o' D h4 => apart id o b C h2 h3 k1 j o' D h4]
      exact k2
  · intro i j o o' b C D e1 e2 k1 k2
    rcases ga i o e1 with h1 | ⟨h1, h2, h3⟩ <;> rcases ga j o' e2 with g1 | ⟨g1, g2, g3⟩
    · exact hs.rel.inj i j o o' b C D h1 g1 k1 k2
    · rw [old j o' g1 g2 g3] at k2
      exact absurd k2 (newb i o b C h1 k1 j o' D g2 g3)
    · rw [old i o h1 h2 h3] at k1
      exact absurd k1 (newb j o' b D g1 k2 i o C h2 h3)
    · rw [old i o h1 h2 h3] at k1; rw [old j o' g1 g2 g3] at k2
      exact hG.inj i j o o' b C D h3 g3 k1 k2
  · intro b hb hn
    exact hs.keep b hb fun id o C e1 => hn id o C (hle id o e1)
  · intro id o b C e k
    rcases ga id o e with h1 | ⟨h1, h2, h3⟩
    · rcases hs.new id o b C h1 k with h4 | ⟨j, o', D, h4, h5⟩
      · exact .inl h4
      · exact .inr ⟨j, o', D, hle j o' h4, h5⟩
    · rw [old id o h1 h2 h3] at k
      exact .inr ⟨id, o, C, h3, k⟩
def opO (ops : Array Oper) (i : Nat) : Op := (ops.getD i default).op
def opD (ops : Array Oper) (i : Nat) : Option Nat := (ops.getD i default).dst
def knd (ops : Array Oper) (i : Nat) : Nat := kindOf (opO ops i)
def nilH : T AO := .nil
theorem nilH_none (id : Nat) : nilH.get id = none := T.get_nil id
theorem nilH_get {id : Nat} {o : AO} (e : nilH.get id = some o) : False := by rw [nilH, T.get_nil] at e; cases e
theorem nilH_put {id j : Nat} {b o : AO} (e : (nilH.put id b).get j = some o) : j = id ∧ o = b := by
  rw [T.get_put] at e
  split at e
  · cases e; exact ⟨by assumption, rfl⟩
  · exact (nilH_get e).elim
/-- What the plan has told of each operation. -/
structure Tells (P : Program) (X call : Caller) (N : Nat) (ops : Array Oper) (pre : Nat → Nat → Prop) (sl0 : T AV) (H0 : T AO) (nx0 nxF : Nat) where
  v : Nat → AV
  c : Nat → Nat
  c' : Nat → Nat
  blk : Nat → Option AO
  st : Nat → T AO
  st' : Nat → T AO
  slr : Nat → T AV
  /-- Memory when so many of the third kind are done. -/
  K : Nat → T AO
  /-- How many of the third kind stand ahead. -/
  num : Nat → Nat
  rng : ∀ i, i < ops.size → nx0 ≤ c i ∧ c i ≤ c' i ∧ c' i ≤ nxF
  dis : ∀ i j, i < ops.size → j < ops.size → i ≠ j → c' i ≤ c j ∨ c' j ≤ c i
  sl : ∀ i, i < ops.size → ∀ t x, (slr i).get t = some x → (∃ k, k < ops.size ∧ pre k i ∧ opD ops k = some t ∧ v k = x) ∨ ((∀ k, k < ops.size → opD ops k = some t → k = i ∨ pre i k) ∧ sl0.get t = some x)
  dst : ∀ i, i < ops.size → ∀ d, opD ops i = some d → d < N ∧ ∀ j, j < ops.size → opD ops j = some d → i = j
  /-- Is it done at all? -/
  wnt : Nat → Bool
  grd : ∀ i, i < ops.size → ((ops.getD i default).guard = none ∧ wnt i = true) ∨ ∃ j want t, (ops.getD i default).guard = some (j, want) ∧ j < ops.size ∧ pre j i ∧ opD ops j = some t ∧ ((∃ x, v j = .b x ∧ wnt i = (x == want)) ∨ ∃ l, v j = .tup l ∧ wnt i = false)
  uw : ∀ i, i < ops.size → wnt i = false → v i = .tup .nil ∧ blk i = none ∧ (knd ops i = 2 → st' i = st i)
  k0 : ∀ i, i < ops.size → knd ops i = 0 → wnt i = true → ∃ h1, evM P (slr i) .nil (c i) (opO ops i) = .ok (v i) h1 (c' i) ∧ ∀ x, blk i = some x → c i < c' i ∧ h1.get (c i) = some x
  k1 : ∀ i, i < ops.size → knd ops i = 1 → wnt i = true → ∀ k, (∀ j, j < ops.size → knd ops j = 2 → pre j i → num j < k) → (∀ j, j < ops.size → knd ops j = 2 → num j < k → ¬ pre i j) → (∀ j, j < k → ∃ l, l < ops.size ∧ knd ops l = 2 ∧ num l = j) →
    ∃ t x p, opO ops i = .load t x ∧ evX (slr i) x = some p ∧ (evLoad P (K k) t p = some (v i) ∨ ∃ j b, j < ops.size ∧ pre j i ∧ blk j = some b ∧ (∀ l, l < ops.size → knd ops l = 2 → pre j l → pre i l) ∧ evLoad P (nilH.put (c j) b) t p = some (v i))
  k2 : ∀ i, i < ops.size → knd ops i = 2 → wnt i = true → evOper P X call (slr i) (st i) (c i) (opO ops i) = .ok (v i) (st' i) (c' i)
  kz : ∀ i, i < ops.size → knd ops i = 0 ∨ knd ops i = 1 ∨ knd ops i = 2
  blk0 : ∀ i, i < ops.size → knd ops i ≠ 0 → blk i = none
  kst : K 0 = H0
  kst' : ∀ i, i < ops.size → knd ops i = 2 → K (num i + 1) = st' i
  /-- They stand one behind the other. -/
  ord : ∀ i j, i < ops.size → j < ops.size → knd ops i = 2 → knd ops j = 2 → num i < num j → pre i j
  inj : ∀ i j, i < ops.size → j < ops.size → knd ops i = 2 → knd ops j = 2 → num i = num j → i = j
  full : ∀ i, i < ops.size → knd ops i = 2 → ∀ k, k < num i → ∃ j, j < ops.size ∧ knd ops j = 2 ∧ num j = k
  /-- What stands in memory ahead of one. -/
  mem : ∀ i, i < ops.size → knd ops i = 2 → ∀ id x, (st i).get id = some x → (K (num i)).get id = some x ∨ ∃ j, j < ops.size ∧ pre j i ∧ (∀ l, l < ops.size → knd ops l = 2 → num l < num i → ¬ pre j l) ∧ id = c j ∧ blk j = some x
  fresh : ∀ j, j < ops.size → ∀ x, blk j = some x → ∀ k, (∀ l, l < ops.size → knd ops l = 2 → num l < k → ¬ pre j l) → (∀ m, m < k → ∃ l, l < ops.size ∧ knd ops l = 2 ∧ num l = m) → (K k).get (c j) = none
  acy : ∀ i, i < ops.size → ¬ pre i i
  trn : ∀ i j k, pre i j → pre j k → pre i k
  lt : ∀ i j, j < ops.size → pre i j → i < ops.size
/-- The order of what is left is one that may be. -/
def Sched (n : Nat) (pre : Nat → Nat → Prop) : List Nat → (Nat → Prop) → Prop
  | [], S => ∀ i, i < n → S i
  | i :: l, S => i < n ∧ ¬ S i ∧ (∀ j, pre j i → S j) ∧ Sched n pre l (fun j => j = i ∨ S j)
section
variable {X call : Caller} {ops : Array Oper} {pre : Nat → Nat → Prop} {sl0 : T AV} {H0 : T AO} {nx0 nxF : Nat}
/-- What holds when the operations of S are done: of memory G is known. -/
structure Inv (T : Tells P X call N ops pre sl0 H0 nx0 nxF) (ρ0 : Map) (a0 : Act) (w0 : World) (S : Nat → Prop) (ρ : Map) (G : Heap) (a : Act) (w : World) : Prop where
  stp : Stp ρ0 ρ H0.get G w0 w nx0 nxF
  size : a.tmps.size = N
  defs : a.defers = a0.defers
  own : ∀ t v, (∀ k, k < ops.size → S k → opD ops k ≠ some t) → sl0.get t = some v → t < N ∧ VRel ρ v (a.tmps.getD t undef)
  out : ∀ i, S i → i < ops.size → ∀ t, opD ops i = some t → VRel ρ (T.v i) (a.tmps.getD t undef)
  fr : ∀ i, i < ops.size → ¬ S i → Fr ρ (T.c i) (T.c' i)
  /-- How many of the third kind are done. -/
  cnt : ∃ k, (∀ i, i < ops.size → knd ops i = 2 → (S i ↔ T.num i < k)) ∧ (∀ j, j < k → ∃ l, l < ops.size ∧ knd ops l = 2 ∧ T.num l = j) ∧ Heap.le (T.K k).get G ∧
    ∀ i, i < ops.size → S i → (∀ l, l < ops.size → knd ops l = 2 → T.num l < k → ¬ pre i l) → ∀ x, T.blk i = some x → G (T.c i) = some x
  dwn : ∀ i j, S j → pre i j → S i
theorem Stp.sub {ρ ρ' : Map} {H H' H2 : Heap} {w w' : World} {c c' : Nat} (h : Stp ρ ρ' H H' w w' c c') (k : Heap.le H2 H') : Stp ρ ρ' H H2 w w' c c' :=
  { h with rel := h.rel.sub k, new := fun id o b C e1 e2 => h.new id o b C (k id o e1) e2 }
/-- A step, and one more of all that is known. -/
theorem Stp.join {ρ ρ1 ρ2 : Map} {H G G1 : Heap} {w w1 w2 : World} {n nF c c' : Nat} {A B : Heap} (h : Stp ρ ρ1 H G w w1 n nF) (hs : Stp ρ1 ρ2 A B w1 w2 c c') (hle : Heap.le A G) (hf : Fr ρ1 c c') (hc : n ≤ c) (hc' : c' ≤ nF)
    (hG : G1 = Heap.over A B G) : Stp ρ ρ2 H G1 w w2 n nF := by
  subst hG
  obtain ⟨k1, k2, k3⟩ := Stp.over h.rel hle hs hf
  refine ⟨k1, h.le.trans hs.le, fun id hid => ?_, h.nxle, hs.os.trans h.os, hs.tape.trans h.tape, hs.output.trans h.output, Nat.le_trans h.size hs.size, fun b hb hn => ?_, fun id o b C e1 e2 => ?_⟩
  · rw [hs.out id (by omega), h.out id hid]
  · rw [k2 b (Nat.lt_of_lt_of_le hb h.size) ?_, h.keep b hb hn]
    intro id o C e1 e2
    rcases h.new id o b C e1 e2 with h1 | ⟨j, o', D, h1, h2⟩
    · omega
    · exact hn j o' D h1 h2
  · rcases k3 id o b C e1 e2 with h1 | ⟨j, o', D, h1, h2⟩
    · exact .inl (Nat.le_trans h.size h1)
    · exact h.new j o' b D h1 h2
theorem getD_put {a : Act} {d : Option Nat} {u : Value} {t : Nat} (h : d ≠ some t) : (a.put d u).tmps.getD t undef = a.tmps.getD t undef := by
  cases d with
  | none => rfl
  | some d =>
    simp only [Act.put, Array.getD_eq_getD_getElem?, Array.getElem?_setIfInBounds]
    rw [if_neg (fun e => h (by rw [e]))]
theorem getD_put_self {a : Act} {u : Value} {t : Nat} (h : t < a.tmps.size) : (a.put (some t) u).tmps.getD t undef = u := by
  simp [Act.put, Array.getD, h]
theorem size_put (a : Act) (d : Option Nat) (u : Value) : (a.put d u).tmps.size = a.tmps.size := by cases d <;> simp [Act.put]
theorem rel_nil (ρ : Map) (w : World) : Rel ρ nilH.get w := ⟨fun id o e => (nilH_get e).elim, fun i j o o' b C D e => (nilH_get e).elim⟩
variable {F : Fence} {n' : Nat} (hF : ∀ f, F.fn f) (hD : F.depth = none)
/-- The slots of the next one. -/
theorem inv_next (T : Tells P X call N ops pre sl0 H0 nx0 nxF) {ρ0 : Map} {a0 : Act} {w0 : World} {S : Nat → Prop} {ρ ρ1 : Map} {G : Heap} {a : Act} {w : World} (I : Inv T ρ0 a0 w0 S ρ G a w) {i : Nat} (hi : i < ops.size) (hpre : ∀ j, pre j i → S j)
    {u : Value} (hle : ρ.le ρ1) (hv : VRel ρ1 (T.v i) u) (hout : ∀ id, ¬ (T.c i ≤ id ∧ id < T.c' i) → ρ1 id = ρ id) {w1 : World} {G1 : Heap} (hstp : Stp ρ0 ρ1 H0.get G1 w0 w1 nx0 nxF)
    (hcnt : ∃ k, (∀ j, j < ops.size → knd ops j = 2 → ((j = i ∨ S j) ↔ T.num j < k)) ∧ (∀ j, j < k → ∃ l, l < ops.size ∧ knd ops l = 2 ∧ T.num l = j) ∧ Heap.le (T.K k).get G1 ∧
      ∀ j, j < ops.size → (j = i ∨ S j) → (∀ l, l < ops.size → knd ops l = 2 → T.num l < k → ¬ pre j l) → ∀ x, T.blk j = some x → G1 (T.c j) = some x) :
    Inv T ρ0 a0 w0 (fun j => j = i ∨ S j) ρ1 G1 (a.put (opD ops i) u) w1 where
  stp := hstp
  size := (size_put _ _ _).trans I.size
  defs := (put_defers _ _ _).trans I.defs
  own := fun t x h1 h2 => by
    obtain ⟨h3, h4⟩ := I.own t x (fun k hk hs => h1 k hk (.inr hs)) h2
    refine ⟨h3, ?_⟩
    rw [getD_put (h1 i hi (.inl rfl))]
    exact h4.mono hle
  out := fun j hj hjn t ht => by
    by_cases e : j = i
    · subst e
      rw [ht, getD_put_self (by rw [I.size]; exact (T.dst j hjn t ht).1)]
      exact hv
    · have hS : S j := hj.resolve_left e
      rw [getD_put (fun h => e ((T.dst j hjn t ht).2 i hi h))]
      exact (I.out j hS hjn t ht).mono hle
  fr := fun j hj hn id h1 h2 => by
    have hne : j ≠ i := fun e => hn (.inl e)
    have hd := T.dis i j hi hj (Ne.symm hne)
    rw [hout id (by omega)]
    exact I.fr j hj (fun h => hn (.inr h)) id h1 h2
  cnt := hcnt
  dwn := fun j k hk hp => by
    rcases hk with rfl | hk
    · exact .inr (hpre j hp)
    · exact .inr (I.dwn j k hk hp)
include hF hD in
theorem drawn_run (hX : ExtOk P X) (hC : CallOk P call) (T : Tells P X call N ops pre sl0 H0 nx0 nxF) {ρ0 : Map} {a0 : Act} {w0 : World} {Q : Exit → Act → World → Prop}
    (hQ : ∀ S ρ G a w, (∀ i, i < ops.size → S i) → Inv T ρ0 a0 w0 S ρ G a w → Q .normal a w) : ∀ (l : List Nat) (S : Nat → Prop) (ρ : Map) (G : Heap) (a : Act) (w : World), Sched ops.size pre l S → Inv T ρ0 a0 w0 S ρ G a w → wpOpsIn F n' P ops Q l a w
  | [], S, ρ, G, a, w, hs, I => hQ S ρ G a w hs I
  | i :: l, S, ρ, G, a, w, hs, I => by
    obtain ⟨hi, hnS, hpre, hs'⟩ := hs
    have ih := drawn_run hX hC T hQ l
    have ho : ops[i]? = some ops[i] := Array.getElem?_eq_getElem hi
    have hget : ops.getD i default = ops[i] := by simp [Array.getD, hi]
    have hO : opO ops i = ops[i].op := by unfold opO; rw [hget]
    have hDd : opD ops i = ops[i].dst := by unfold opD; rw [hget]
    have hwant : Region.wanted ops[i] (yielded ops a.tmps) = T.wnt i := by
      rcases T.grd i hi with ⟨hg, hw⟩ | ⟨j, want, t, hg, hj, hp, hd, hv⟩
      · rw [hget] at hg; rw [hw]; simp [Region.wanted, hg]
      · rw [hget] at hg
        have hr := I.out j (hpre j hp) hj t hd
        have htl : t < a.tmps.size := by rw [I.size]; exact (T.dst j hj t hd).1
        have hy : ((ops[j]?).bind (·.dst)) = some t := by
          have hd' := hd
          unfold opD at hd'
          rw [Array.getElem?_eq_getElem hj]
          simpa [Array.getD, hj] using hd'
        have h4 : a.tmps[t]? = some (a.tmps.getD t undef) := by simp [Array.getD, htl]
        rcases hv with ⟨x, hx, hw⟩ | ⟨l', hx, hw⟩
        · rw [hx] at hr
          have hr : a.tmps.getD t undef = .bool x := hr
          rw [hw]
          simp only [Region.wanted, hg, yielded, hy, Option.bind_some, h4, hr]
          cases x <;> cases want <;> rfl
        · rw [hx] at hr
          obtain ⟨c, hc, _⟩ := hr
          rw [hw]
          simp only [Region.wanted, hg, yielded, hy, Option.bind_some, h4, hc]
          cases want <;> rfl
    cases hw : T.wnt i with
    | false =>
      simp only [wpOpsIn, ho, hwant, hw, Bool.false_eq_true, if_false]
      refine ⟨fun f _ => hF f, ?_⟩
      rw [← hDd]
      obtain ⟨u1, u2, u3⟩ := T.uw i hi hw
      have hv : VRel ρ (T.v i) undef := by rw [u1]; exact ⟨#[], rfl, rfl⟩
      obtain ⟨k, c1, c2, c3, c4⟩ := I.cnt
      by_cases hk : knd ops i = 2
      · have hnum : T.num i = k := by
          have h1 : ¬ T.num i < k := fun h => hnS ((c1 i hi hk).2 h)
          have h2 : ¬ k < T.num i := by
            intro h
            obtain ⟨j, hj, hj2, hjk⟩ := T.full i hi hk k h
            have := T.ord j i hj hi hj2 hk (by omega)
            have := (c1 j hj hj2).1 (hpre j this)
            omega
          omega
        have hst : Heap.le (T.st i).get G := by
          intro id x e
          rcases T.mem i hi hk id x e with h1 | ⟨j, hj, hp, hn, rfl, hx⟩
          · rw [hnum] at h1; exact c3 id x h1
          · exact c4 j hj (hpre j hp) (fun l hl hl2 hlt => hn l hl hl2 (by omega)) x hx
        refine ih _ ρ G _ w hs' (inv_next T I hi hpre (.refl _) hv (fun _ _ => rfl) I.stp ⟨k + 1, fun j hj hj2 => ?_, fun j hj => ?_, ?_, fun j hj hjS hjp x hx => ?_⟩)
        · constructor
          · rintro (rfl | h)
            · omega
            · have := (c1 j hj hj2).1 h; omega
          · intro h
            by_cases hjk : T.num j < k
            · exact .inr ((c1 j hj hj2).2 hjk)
            · exact .inl (T.inj j i hj hi hj2 hk (by omega))
        · by_cases hjk : j < k
          · exact c2 j hjk
          · exact ⟨i, hi, hk, by omega⟩
        · rw [← hnum, T.kst' i hi hk, u3 hk]; exact hst
        · have hji : j ≠ i := by
            rintro rfl
            rw [u2] at hx; cases hx
          exact c4 j hj (hjS.resolve_left hji) (fun l hl hl2 hlt => hjp l hl hl2 (by omega)) x hx
      · refine ih _ ρ G _ w hs' (inv_next T I hi hpre (.refl _) hv (fun _ _ => rfl) I.stp ⟨k, fun j hj hj2 => ?_, c2, c3, fun j hj hjS hjp x hx => ?_⟩)
        · constructor
          · rintro (rfl | h)
            · exact absurd hj2 hk
            · exact (c1 j hj hj2).1 h
          · exact fun h => .inr ((c1 j hj hj2).2 h)
        · have hji : j ≠ i := by
            rintro rfl
            rw [u2] at hx; cases hx
          exact c4 j hj (hjS.resolve_left hji) hjp x hx
    | true =>
    simp only [wpOpsIn, ho, hwant, hw, if_true]
    -- its slots
    have hS : SRel N ρ (T.slr i) a := by
      refine ⟨I.size, fun t x e => ?_⟩
      rcases T.sl i hi t x e with ⟨k, hk, hp, hd, rfl⟩ | ⟨h1, h2⟩
      · exact ⟨(T.dst k hk t hd).1, I.out k (hpre k hp) hk t hd⟩
      · exact I.own t x (fun k hk hs hd => by
          rcases h1 k hk hd with rfl | hp
          · exact hnS hs
          · exact hnS (I.dwn i k hs hp)) h2
    obtain ⟨hr1, hr2, hr3⟩ := T.rng i hi
    have hfr := I.fr i hi hnS
    obtain ⟨k, c1, c2, c3, c4⟩ := I.cnt
    rcases T.kz i hi with hk | hk | hk
    · -- slots alone
      obtain ⟨h1, he, hb⟩ := T.k0 i hi hk hw
      rw [hO] at he
      let B : Heap := fun id => if id = T.c i then T.blk i else none
      have hB : Heap.le B h1.get := by
        intro id x e
        by_cases hid : id = T.c i
        · simp only [B, hid, if_true] at e
          rw [hid]; exact (hb x e).2
        · simp only [B, hid, if_false] at e; cases e
      obtain ⟨ρ1, w1, hs1, hr⟩ := evM_run (o := ops[i]) (rel_nil ρ w) hS he hfr
      have hs2 := hs1.sub hB
      have hle : Heap.le (nilH).get G := fun id o e => (nilH_get e).elim
      have hjoin := I.stp.join hs2 hle hfr hr1 hr3 rfl
      have hov : ∀ id o, (B id = some o → Heap.over (nilH).get B G id = some o) ∧ (B id = none → Heap.over (nilH).get B G id = G id) := by
        intro id o
        constructor
        · intro e; simp only [Heap.over, e]
        · intro e; simp only [Heap.over, e, nilH_none]
      have hBn : ∀ id, (∀ x, T.blk i = some x → id ≠ T.c i) → B id = none := by
        intro id h
        by_cases hid : id = T.c i
        · simp only [B, hid, if_true]
          cases e : T.blk i with
          | none => rfl
          | some x => exact absurd hid (h x e)
        · simp only [B, hid, if_false]
      have go : ∀ u, VRel ρ1 (T.v i) u → wpOpsIn F n' P ops Q l (a.put ops[i].dst u) w1 := by
        intro u hv
        rw [← hDd]
        refine ih _ ρ1 _ _ w1 hs' (inv_next T I hi hpre hs1.le hv hs1.out hjoin ⟨k, fun j hj hj2 => ?_, c2, fun id o e => ?_, fun j hj hjS hjp x hx => ?_⟩)
        · constructor
          · rintro (rfl | h)
            · rw [hk] at hj2; cases hj2
            · exact (c1 j hj hj2).1 h
          · exact fun h => .inr ((c1 j hj hj2).2 h)
        · have hG := c3 id o e
          rw [(hov id o).2 (hBn id fun x hx hid => ?_)]
          · exact hG
          · subst hid
            obtain ⟨b, C, ob, h3, _⟩ := I.stp.rel.has _ o hG
            rw [hfr _ (Nat.le_refl _) (hb x hx).1] at h3; cases h3
        · by_cases hji : j = i
          · subst hji
            exact (hov _ x).1 (by simp only [B, if_true]; exact hx)
          · have hGj := c4 j hj (hjS.resolve_left hji) hjp x hx
            rw [(hov _ x).2 (hBn _ fun y hy hc => ?_)]
            · exact hGj
            · obtain ⟨b, C, ob, h3, _⟩ := I.stp.rel.has _ x hGj
              rw [hc, hfr _ (Nat.le_refl _) (hb y hy).1] at h3; cases h3
      refine ⟨fun f _ => hF f, ?_⟩
      have hnd : ∀ c, ops[i].op ≠ .defer c := by
        intro c hc
        rw [hc] at he
        simp [evM, evP, ofO] at he
      rw [semAt_ok hnd]
      rcases hr with ⟨u, hrun, hv⟩ | ⟨hrun, hvv⟩
      · rw [hrun]; exact go u hv
      · rw [hrun]; exact go undef (by rw [hvv]; exact ⟨#[], rfl, rfl⟩)
    · -- a load
      obtain ⟨t, x, p, h1, h2, h3⟩ := T.k1 i hi hk hw k (fun j hj hj2 hp => (c1 j hj hj2).1 (hpre j hp)) (fun j hj hj2 hlt hp => hnS (I.dwn i j ((c1 j hj hj2).2 hlt) hp)) c2
      rw [hO] at h1
      obtain ⟨u, k1, k2⟩ : ∃ u, (Instr.loadAt t (a.eval x)).run P w = .ok u w ∧ VRel ρ (T.v i) u := by
        rcases h3 with h3 | ⟨j, b, hj, hp, hb, hst, h3⟩
        · have hRK : Rel ρ (T.K k).get w := I.stp.rel.sub c3
          exact evLoad_run hRK (evX_rel hS h2) h3
        · have hG := c4 j hj (hpre j hp) (fun l hl hl2 hlt hpl => hnS (I.dwn i l ((c1 l hl hl2).2 hlt) (hst l hl hl2 hpl))) b hb
          have hle : Heap.le (nilH.put (T.c j) b).get G := fun id o e => by
            obtain ⟨e1, e2⟩ := nilH_put e
            rw [e1, e2]; exact hG
          have hRK : Rel ρ (nilH.put (T.c j) b).get w := I.stp.rel.sub hle
          exact evLoad_run hRK (evX_rel hS h2) h3
      have hrun : (execOp a.eval ops[i]).run P w = .ok (.value u) w := by
        simp only [execOp, h1]; simp [k1]
      refine ⟨fun f _ => hF f, ?_⟩
      rw [semAt_ok (o := ops[i]) (by intro c hc; rw [h1] at hc; cases hc), hrun]
      show wpOpsIn F n' P ops Q l (a.put ops[i].dst u) w
      rw [← hDd]
      refine ih _ ρ G _ w hs' (inv_next T I hi hpre (.refl _) k2 (fun _ _ => rfl) I.stp ⟨k, fun j hj hj2 => ?_, c2, c3, fun j hj hjS hjp x hx => ?_⟩)
      · constructor
        · rintro (rfl | h)
          · rw [hk] at hj2; cases hj2
          · exact (c1 j hj hj2).1 h
        · exact fun h => .inr ((c1 j hj hj2).2 h)
      · rcases hjS with rfl | h
        · rw [T.blk0 j hj (by rw [hk]; decide)] at hx; cases hx
        · exact c4 j hj h hjp x hx
    · -- all else
      have hnum : T.num i = k := by
        have h1 : ¬ T.num i < k := fun h => hnS ((c1 i hi hk).2 h)
        have h2 : ¬ k < T.num i := by
          intro h
          obtain ⟨j, hj, hj2, hjk⟩ := T.full i hi hk k h
          have := T.ord j i hj hi hj2 hk (by omega)
          have := (c1 j hj hj2).1 (hpre j this)
          omega
        omega
      have hst : Heap.le (T.st i).get G := by
        intro id x e
        rcases T.mem i hi hk id x e with h1 | ⟨j, hj, hp, hn, rfl, hx⟩
        · rw [hnum] at h1; exact c3 id x h1
        · exact c4 j hj (hpre j hp) (fun l hl hl2 hlt => hn l hl hl2 (by omega)) x hx
      have he := T.k2 i hi hk hw
      rw [hO] at he
      refine oper_run hF hD hX hC he (I.stp.rel.sub hst) hS hfr fun ρ1 u w1 hs1 hv => ?_
      show wpOpsIn F n' P ops Q l (a.put ops[i].dst u) w1
      rw [← hDd]
      refine ih _ ρ1 (Heap.over (T.st i).get (T.st' i).get G) _ w1 hs' (inv_next T I hi hpre hs1.le hv hs1.out (I.stp.join hs1 hst hfr hr1 hr3 rfl) ⟨k + 1, fun j hj hj2 => ?_, fun j hj => ?_, ?_, fun j hj hjS hjp x hx => ?_⟩)
      · constructor
        · rintro (rfl | h)
          · omega
          · have := (c1 j hj hj2).1 h; omega
        · intro h
          by_cases hjk : T.num j < k
          · exact .inr ((c1 j hj hj2).2 hjk)
          · exact .inl (T.inj j i hj hi hj2 hk (by omega))
      · by_cases hjk : j < k
        · exact c2 j hjk
        · exact ⟨i, hi, hk, by omega⟩
      · rw [← hnum, T.kst' i hi hk]
        intro id x e
        simp only [Heap.over, e]
      · have hji : j ≠ i := by
          rintro rfl
          rw [T.blk0 j hj (by rw [hk]; decide)] at hx; cases hx
        have hSj := hjS.resolve_left hji
        have hGj := c4 j hj hSj (fun l hl hl2 hlt => hjp l hl hl2 (by omega)) x hx
        have c2' : ∀ m, m < k + 1 → ∃ l, l < ops.size ∧ knd ops l = 2 ∧ T.num l = m := fun m hm => by
          by_cases hmk : m < k
          · exact c2 m hmk
          · exact ⟨i, hi, hk, by omega⟩
        have f1 := T.fresh j hj x hx (k + 1) hjp c2'
        rw [← hnum, T.kst' i hi hk] at f1
        have f0 := T.fresh j hj x hx k (fun l hl hl2 hlt => hjp l hl hl2 (by omega)) c2
        have f2 : (T.st i).get (T.c j) = none := by
          cases e : (T.st i).get (T.c j) with
          | none => rfl
          | some y =>
            rcases T.mem i hi hk _ y e with h1 | ⟨m, hm, hp, _, hcm, hx'⟩
            · rw [hnum, f0] at h1; cases h1
            · have hjm : j = m := by
                by_cases e : j = m
                · exact e
                · exfalso
                  have hd := T.dis j m hj hm e
                  have k0j : knd ops j = 0 := by
                    rcases T.kz j hj with h | h | h
                    · exact h
                    · rw [T.blk0 j hj (by rw [h]; decide)] at hx; cases hx
                    · rw [T.blk0 j hj (by rw [h]; decide)] at hx; cases hx
                  have k0m : knd ops m = 0 := by
                    rcases T.kz m hm with h | h | h
                    · exact h
                    · rw [T.blk0 m hm (by rw [h]; decide)] at hx'; cases hx'
                    · rw [T.blk0 m hm (by rw [h]; decide)] at hx'; cases hx'
                  have wj : T.wnt j = true := by
                    cases e : T.wnt j with
                    | true => rfl
                    | false => rw [(T.uw j hj e).2.1] at hx; cases hx
                  have wm : T.wnt m = true := by
                    cases e : T.wnt m with
                    | true => rfl
                    | false => rw [(T.uw m hm e).2.1] at hx'; cases hx'
                  obtain ⟨_, _, q1⟩ := T.k0 j hj k0j wj
                  obtain ⟨_, _, q2⟩ := T.k0 m hm k0m wm
                  have := (q1 x hx).1
                  have := (q2 y hx').1
                  omega
              subst hjm
              exact absurd hp (hjp i hi hk (by omega))
        simp only [Heap.over, f1, f2]
        exact hGj
end
end Go.Proofs.YtmhnnfponloihaaDoor
