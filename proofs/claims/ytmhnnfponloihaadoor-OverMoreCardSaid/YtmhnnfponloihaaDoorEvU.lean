/- A region that draws its order, by its plan: sound. No Go program in this text. -/
import Derived.Test.YtmhnnfponloihaaDoorEvT
set_option linter.unusedSimpArgs false
set_option linter.unusedVariables false
namespace Go.Proofs.YtmhnnfponloihaaDoor
open Go.RowKit
variable {P : Program} {N : Nat} {X call : Caller} {ops : Array Oper}

instance : Inhabited AV := ⟨.ni⟩
instance {α : Type} : Inhabited (T α) := ⟨.nil⟩
instance : Inhabited Rec := ⟨⟨0, default, 0, 0, none, .nil, .nil, .nil, true⟩⟩
/-- All that is known, each of those ahead of it. -/
def RecsOk (P : Program) (X call : Caller) (N : Nat) (ops : Array Oper) (sl0 : T AV) (H0 : T AO) : List Rec → Prop
  | [] => True
  | r :: rs => RecOk P X call N ops sl0 H0 rs r ∧ RecsOk P X call N ops sl0 H0 rs
theorem recs_at {sl0 : T AV} {H0 : T AO} : ∀ {R : List Rec}, RecsOk P X call N ops sl0 H0 R → ∀ {a : List Rec} {r : Rec} {b : List Rec}, R = a ++ r :: b → RecOk P X call N ops sl0 H0 b r
  | _, h, [], r, b, e => by subst e; exact h.1
  | [], h, x :: a, r, b, e => by cases e
  | y :: R, h, x :: a, r, b, e => by
    simp only [List.cons_append, List.cons.injEq] at e
    exact recs_at h.2 e.2
theorem plan_good (S : Stat ops N) {sl0 : T AV} {H0 : T AO} {nx0 : Nat} : ∀ (l : List Nat) (dm : Nat) (rs rs2 : List Rec) (s sF : PS), evPlan P X call N ops l s = some (rs2, sF) → planB ops dm l = true → (∀ j, dm.testBit j = true ↔ ∃ q ∈ rs, q.i = j) →
    Good ops N sl0 H0 nx0 rs s → RecsOk P X call N ops sl0 H0 rs → ∃ R, Good ops N sl0 H0 nx0 R sF ∧ RecsOk P X call N ops sl0 H0 R ∧ ∀ j, j < ops.size → ∃ q ∈ R, q.i = j
  | [], dm, rs, rs2, s, sF, e, hp, hd, G, hR => by
    simp only [evPlan] at e; cases e
    refine ⟨rs, G, hR, fun j hj => ?_⟩
    simp only [planB, Nat.beq_eq] at hp
    have e : Nat.sub (Nat.pow 2 ops.size) 1 = 2 ^ ops.size - 1 := rfl
    exact (hd j).1 (by rw [hp, e, Nat.testBit_two_pow_sub_one]; simpa using hj)
  | i :: l, dm, rs, rs2, s, sF, e, hp, hd, G, hR => by
    simp only [evPlan] at e
    split at e
    · rename_i r s1 hstep
      split at e
      · rename_i rs3 s2 hrest
        cases e
        simp only [planB, Bool.and_eq_true] at hp
        obtain ⟨p1, p2, p3, p4, p6⟩ := hp
        rw [tb_eq] at p2
        rw [Nat.ble_eq] at p1
        have hi : i < ops.size := p1
        have hT := step_is (S.knd i hi) hstep
        have hnew : ∀ q ∈ rs, q.i ≠ i := fun q hq hqi => by
          have := (hd i).2 ⟨q, hq, hqi⟩
          rw [this] at p2; cases p2
        have hpre : ∀ j, j < ops.size → preB ops j i = true → ∃ q ∈ rs, q.i = j := fun j hj hb => by
          exact (hd j).1 (land_is p3 (pre_bit.1 hb).2)
        have hch : chB ops i = true → ∀ q ∈ rs, preB ops q.i i = true := fun hc q hq => by
          rw [hc, Bool.not_true, Bool.false_or] at p4
          exact pre_bit.2 ⟨hi, land_is p4 ((hd q.i).2 ⟨q, hq, rfl⟩)⟩
        have hord : ∀ q ∈ rs, preB ops i q.i = false := fun q hq => by
          cases hb : preB ops i q.i with
          | false => rfl
          | true =>
            exfalso
            obtain ⟨a, b, rfl⟩ := List.append_of_mem hq
            obtain ⟨q', hq', he⟩ := (recs_at hR rfl).prf i hi hb
            exact hnew q' (List.mem_append_right _ (List.mem_cons_of_mem _ hq')) he
        obtain ⟨G1, hr⟩ := good_step (X := X) (call := call) (P := P) S G hi hnew hpre hch hord hT
        refine plan_good S l (Nat.lor dm (Nat.pow 2 i)) (r :: rs) rs3 s1 sF hrest p6 (fun j => ?_) G1 ⟨hr, hR⟩
        have e : Nat.lor dm (Nat.pow 2 i) = dm ||| 2 ^ i := rfl
        rw [e, Nat.testBit_or, Bool.or_eq_true, Nat.testBit_two_pow, decide_eq_true_iff, hd j]
        constructor
        · rintro (⟨q, hq, e⟩ | rfl)
          · exact ⟨q, List.mem_cons_of_mem _ hq, e⟩
          · exact ⟨r, List.mem_cons_self .., hT.ri⟩
        · rintro ⟨q, hq, e⟩
          rcases List.mem_cons.1 hq with rfl | hq
          · exact .inr (by rw [← e, hT.ri])
          · exact .inl ⟨q, hq, e⟩
      · cases e
    · cases e
/-- Memory when so many of the third kind are done. -/
def Kf (ops : Array Oper) (H0 : T AO) : List Rec → Nat → T AO
  | [], _ => H0
  | r :: rs, k => if chB ops r.i = true ∧ k = cntL ops rs + 1 then r.st' else Kf ops H0 rs k
theorem cnt_append (a b : List Rec) : cntL ops b ≤ cntL ops (a ++ b) := by
  induction a with
  | nil => exact Nat.le_refl _
  | cons r a ih =>
    simp only [List.cons_append, cntL]
    cases chB ops r.i <;> simp <;> omega
theorem Kf_append {H0 : T AO} {b : List Rec} {k : Nat} (hk : k ≤ cntL ops b) : ∀ (a : List Rec), Kf ops H0 (a ++ b) k = Kf ops H0 b k
  | [] => rfl
  | r :: a => by
    have := cnt_append (ops := ops) a b
    simp only [List.cons_append, Kf]
    rw [if_neg (fun h => by omega)]
    exact Kf_append hk a
/-- The number of one of the third kind. -/
def numL (ops : Array Oper) : List Rec → Nat → Nat
  | [], _ => 0
  | r :: rs, i => if r.i = i then cntL ops rs else numL ops rs i
theorem KL_get {H0 : T AO} : ∀ (rs : List Rec) (p j : Nat) (K : T AO), (KL ops H0 rs)[p]? = some (j, K) → p ≤ cntL ops rs ∧ K = Kf ops H0 rs (cntL ops rs - p) ∧
    (p < cntL ops rs → ∃ a q b, rs = a ++ q :: b ∧ q.i = j ∧ chB ops j = true ∧ cntL ops b = cntL ops rs - p - 1)
  | [], p, j, K, h => by
    simp only [KL] at h
    cases p with
    | zero => simp at h; obtain ⟨rfl, rfl⟩ := h; exact ⟨Nat.le_refl _, rfl, fun h => by simp [cntL] at h⟩
    | succ p => simp at h
  | r :: rs, p, j, K, h => by
    simp only [KL] at h
    cases hc : chB ops r.i with
    | false =>
      rw [hc, cond_false] at h
      obtain ⟨h1, h2, h3⟩ := KL_get rs p j K h
      have e : cntL ops (r :: rs) = cntL ops rs := by simp [cntL, hc]
      rw [e]
      refine ⟨h1, ?_, fun hp => ?_⟩
      · rw [h2]; simp only [Kf, hc]; simp
      · obtain ⟨a, q, b, rfl, h4⟩ := h3 hp
        exact ⟨r :: a, q, b, rfl, h4⟩
    | true =>
      rw [hc, cond_true] at h
      have e : cntL ops (r :: rs) = cntL ops rs + 1 := by simp [cntL, hc]
      rw [e]
      cases p with
      | zero =>
        simp at h
        obtain ⟨rfl, rfl⟩ := h
        refine ⟨by omega, ?_, fun _ => ⟨[], r, rs, rfl, rfl, hc, by omega⟩⟩
        simp only [Kf, Nat.sub_zero]
        rw [if_pos ⟨hc, trivial⟩]
      | succ p =>
        simp only [List.getElem?_cons_succ] at h
        obtain ⟨h1, h2, h3⟩ := KL_get rs p j K h
        refine ⟨by omega, ?_, fun hp => ?_⟩
        · rw [h2]; simp only [Kf]
          rw [if_neg (fun h => by omega)]
          congr 1; omega
        · obtain ⟨a, q, b, rfl, h4, h5, h6⟩ := h3 (by omega)
          exact ⟨r :: a, q, b, rfl, h4, h5, by omega⟩
theorem KL_at {H0 : T AO} (rs : List Rec) {k : Nat} (hk : k ≤ cntL ops rs) : ∃ j, (KL ops H0 rs)[cntL ops rs - k]? = some (j, Kf ops H0 rs k) := by
  have hl := KL_len (ops := ops) (H0 := H0) rs
  have hlt : cntL ops rs - k < (KL ops H0 rs).length := by omega
  obtain ⟨⟨j, K⟩, h1⟩ : ∃ x, (KL ops H0 rs)[cntL ops rs - k]? = some x := ⟨_, List.getElem?_eq_getElem hlt⟩
  have h2 := (KL_get rs _ j K h1).2.1
  have : cntL ops rs - (cntL ops rs - k) = k := by omega
  rw [this] at h2
  exact ⟨j, by rw [h1, h2]⟩
theorem cnt_full : ∀ (rs : List Rec) (k : Nat), k < cntL ops rs → ∃ a q b, rs = a ++ q :: b ∧ chB ops q.i = true ∧ cntL ops b = k
  | [], k, h => by simp [cntL] at h
  | r :: rs, k, h => by
    simp only [cntL] at h
    cases hc : chB ops r.i with
    | false =>
      rw [hc, cond_false] at h
      obtain ⟨a, q, b, rfl, h1⟩ := cnt_full rs k h
      exact ⟨r :: a, q, b, rfl, h1⟩
    | true =>
      rw [hc, cond_true] at h
      by_cases hk : k = cntL ops rs
      · exact ⟨[], r, rs, rfl, hc, hk.symm⟩
      · obtain ⟨a, q, b, rfl, h1⟩ := cnt_full rs k (by omega)
        exact ⟨r :: a, q, b, rfl, h1⟩
/-- Two of one list: one stands behind the other. -/
theorem two_at {R : List Rec} (hd : R.Pairwise fun a b => a.i ≠ b.i) {a b c d : List Rec} {r q : Rec} (h1 : R = a ++ r :: b) (h2 : R = c ++ q :: d) : r = q ∧ b = d ∨ (∃ e, b = e ++ q :: d) ∨ (∃ e, d = e ++ r :: b) := by
  induction a generalizing R c with
  | nil =>
    cases c with
    | nil => subst h1; simp at h2; exact .inl h2
    | cons x c =>
      subst h1
      simp only [List.nil_append, List.cons_append, List.cons.injEq] at h2
      exact .inr (.inl ⟨c, h2.2⟩)
  | cons x a ih =>
    cases c with
    | nil =>
      subst h1
      simp only [List.nil_append, List.cons_append, List.cons.injEq] at h2
      exact .inr (.inr ⟨a, h2.2.symm⟩)
    | cons y c =>
      subst h1
      simp only [List.cons_append, List.cons.injEq] at h2
      rw [List.cons_append, List.pairwise_cons] at hd
      exact ih hd.2 rfl h2.2
theorem num_at {R a b : List Rec} {r : Rec} (hd : R.Pairwise fun a b => a.i ≠ b.i) (h : R = a ++ r :: b) : numL ops R r.i = cntL ops b := by
  induction a generalizing R with
  | nil => subst h; simp [numL]
  | cons x a ih =>
    subst h
    rw [List.cons_append, List.pairwise_cons] at hd
    have hne : x.i ≠ r.i := hd.1 r (by simp)
    simp only [List.cons_append, numL, if_neg hne]
    exact ih hd.2 rfl
def recOf (R : List Rec) (i : Nat) : Rec := (R.find? fun r => r.i == i).getD default
theorem rec_at {R a b : List Rec} {r : Rec} (hd : R.Pairwise fun a b => a.i ≠ b.i) (h : R = a ++ r :: b) : recOf R r.i = r := by
  induction a generalizing R with
  | nil => subst h; simp [recOf]
  | cons x a ih =>
    subst h
    rw [List.cons_append, List.pairwise_cons] at hd
    have hne : x.i ≠ r.i := hd.1 r (by simp)
    have := ih hd.2 rfl
    unfold recOf at this ⊢
    rw [List.cons_append, List.find?_cons_of_neg (by simpa using hne)]
    exact this
theorem chB_is {i : Nat} : chB ops i = true ↔ knd ops i = 2 := by unfold chB; rw [Nat.beq_eq]
theorem cnt_lt {a b : List Rec} {q : Rec} (hc : chB ops q.i = true) : cntL ops b < cntL ops (a ++ q :: b) := by
  have := cnt_append (ops := ops) a (q :: b)
  have e : cntL ops (q :: b) = cntL ops b + 1 := by simp [cntL, hc]
  omega
noncomputable def tells (S : Stat ops N) {sl0 : T AV} {H0 : T AO} {nx0 : Nat} {R : List Rec} {sF : PS} (G : Good ops N sl0 H0 nx0 R sF) (hR : RecsOk P X call N ops sl0 H0 R) (hall : ∀ j, j < ops.size → ∃ q ∈ R, q.i = j) :
    Tells P X call N ops (Pre ops) sl0 H0 nx0 sF.nx :=
  have at_ : ∀ i, i < ops.size → ∃ a r b, R = a ++ r :: b ∧ r.i = i ∧ recOf R i = r ∧ numL ops R i = cntL ops b ∧ RecOk P X call N ops sl0 H0 b r := fun i hi => by
    obtain ⟨r, hr, rfl⟩ := hall i hi
    obtain ⟨a, b, h⟩ := List.append_of_mem hr
    exact ⟨a, r, b, h, rfl, rec_at G.dif h, num_at G.dif h, recs_at hR h⟩
  have memR : ∀ {a b : List Rec} {r : Rec}, R = a ++ r :: b → r ∈ R := fun h => by rw [h]; simp
  -- of two, the newer one of the third kind
  have newer : ∀ {a r b : _} {c q d : _}, R = a ++ r :: b → R = c ++ q :: d → chB ops q.i = true → cntL ops b ≤ cntL ops d → r.i ≠ q.i → Pre ops r.i q.i := fun {a r b c q d} h1 h2 hc hle hne => by
    rcases two_at G.dif h1 h2 with ⟨rfl, _⟩ | ⟨e, he⟩ | ⟨e, he⟩
    · exact absurd rfl hne
    · exfalso
      have := cnt_lt (ops := ops) (a := e) (b := d) hc
      rw [← he] at this; omega
    · exact ⟨G.ids r (memR h1), (recs_at hR h2).chp hc r (by rw [he]; simp)⟩
  -- what is not ahead of those of the third kind that are done stands with them in the plan
  have bound : ∀ {a r b : _} {k : Nat}, R = a ++ r :: b → (∀ l, l < ops.size → knd ops l = 2 → numL ops R l < k → ¬ Pre ops r.i l) → (∀ m, m < k → ∃ l, l < ops.size ∧ knd ops l = 2 ∧ numL ops R l = m) → knd ops r.i ≠ 2 → k ≤ cntL ops b := fun {a r b k} h1 hn hf hk => by
    refine Nat.le_of_not_lt fun hlt => ?_
    obtain ⟨l, hl, hl2, hm⟩ := hf (cntL ops b) hlt
    obtain ⟨c, q, d, h2, rfl, _, hnum, _⟩ := at_ l hl
    rw [hnum] at hm
    exact hn q.i hl hl2 (by rw [hnum]; omega) (newer h1 h2 (chB_is.2 hl2) (by omega) (fun e => hk (by rw [e]; exact hl2)))
  { v := fun i => (recOf R i).v
    c := fun i => (recOf R i).c
    c' := fun i => (recOf R i).c'
    blk := fun i => (recOf R i).blk
    st := fun i => (recOf R i).st
    st' := fun i => (recOf R i).st'
    slr := fun i => (recOf R i).slr
    K := Kf ops H0 R
    num := numL ops R
    rng := fun i hi => by
      obtain ⟨a, r, b, h, _, hrec, _⟩ := at_ i hi
      rw [hrec]; exact G.rng r (memR h)
    dis := fun i j hi hj hij => by
      obtain ⟨a, r, b, h1, e1, hr1, _⟩ := at_ i hi
      obtain ⟨c, q, d, h2, e2, hr2, _⟩ := at_ j hj
      rw [hr1, hr2]
      have hap := G.apt
      rcases two_at G.dif h1 h2 with ⟨rfl, _⟩ | ⟨e, he⟩ | ⟨e, he⟩
      · exact absurd (e1.symm.trans e2) hij
      · rw [h1, List.pairwise_append] at hap
        have := (List.pairwise_cons.1 hap.2.1).1 q (by rw [he]; simp)
        exact .inr this
      · rw [h2, List.pairwise_append] at hap
        have := (List.pairwise_cons.1 hap.2.1).1 r (by rw [he]; simp)
        exact .inl this
    sl := fun i hi t x e => by
      obtain ⟨a, r, b, h, e1, hrec, _, hok⟩ := at_ i hi
      rw [hrec] at e
      rcases hok.sl t x e with ⟨q, hq, hp, hd, hv⟩ | h2
      · obtain ⟨c, d, hb⟩ := List.append_of_mem hq
        have hR2 : R = (a ++ r :: c) ++ q :: d := by rw [h, hb]; simp
        refine .inl ⟨q.i, G.ids q (memR hR2), ⟨G.ids q (memR hR2), by rw [← e1]; exact hp⟩, hd, ?_⟩
        rw [rec_at G.dif hR2]; exact hv
      · refine .inr ⟨fun k hk hd => ?_, h2.2⟩
        rcases h2.1 k hk hd with h3 | h3
        · exact .inl (h3.trans e1)
        · exact .inr ⟨hi, by rw [← e1]; exact h3⟩
    dst := S.dst
    wnt := fun i => (recOf R i).w
    grd := fun i hi => by
      obtain ⟨a, r, b, h, e1, hrec, _, hok⟩ := at_ i hi
      rw [hrec]
      subst e1
      rcases hok.gd with h1 | ⟨j, want, t, hg, hj, hp, hd, q, hq, rfl, hv⟩
      · exact .inl h1
      · obtain ⟨c, d, hb⟩ := List.append_of_mem hq
        have hR2 : R = (a ++ r :: c) ++ q :: d := by rw [h, hb]; simp
        refine .inr ⟨q.i, want, t, hg, hj, ⟨hj, hp⟩, hd, ?_⟩
        rw [rec_at G.dif hR2]; exact hv
    uw := fun i hi hw => by
      obtain ⟨a, r, b, h, e1, hrec, _, hok⟩ := at_ i hi
      rw [hrec] at hw ⊢
      subst e1
      exact hok.uw hw
    k0 := fun i hi hk hw => by
      obtain ⟨a, r, b, h, e1, hrec, _, hok⟩ := at_ i hi
      rw [hrec] at hw ⊢
      have := hok.z0 (by rw [e1]; exact hk) hw
      rw [e1] at this; exact this
    k1 := fun i hi hk hw k hk1 hk2 hk3 => by
      obtain ⟨a, r, b, h, e1, hrec, hnum, hok⟩ := at_ i hi
      rw [hrec] at hw ⊢
      subst e1
      obtain ⟨t, x, p, h1, h2, h3⟩ := hok.z1 hk hw
      refine ⟨t, x, p, h1, h2, ?_⟩
      rcases h3 with h3 | ⟨q, hq, bb, hqb, hqp, hqs, h3⟩
      rotate_left
      · obtain ⟨c, d, hb2⟩ := List.append_of_mem hq
        have hR2 : R = (a ++ r :: c) ++ q :: d := by rw [h, hb2]; simp
        have hqi := G.ids q (memR hR2)
        refine .inr ⟨q.i, bb, hqi, ⟨hqi, hqp⟩, by rw [rec_at G.dif hR2]; exact hqb, fun l hl hl2 hpl => ⟨hi, ?_⟩, by rw [rec_at G.dif hR2]; exact h3⟩
        have := allI_is (k := 0) hqs l (ops.getD l default) (by simp [Array.getD, hl])
        rw [Nat.zero_add] at this
        have hl2' : Nat.beq (kindOf (ops.getD l default).op) 2 = true := beq_t hl2
        rw [hl2', hpl.2] at this
        simpa using this
      refine .inl ?_
      have hkb : k ≤ cntL ops b := bound h hk2 hk3 (by rw [hk]; decide)
      obtain ⟨j, hj⟩ := KL_at (ops := ops) (H0 := H0) b hkb
      have hb' : k ≤ cntL ops (r :: b) := by
        have := cnt_append (ops := ops) [r] b
        exact Nat.le_trans hkb this
      have hKf : Kf ops H0 R k = Kf ops H0 b k := by
        rw [h, show a ++ r :: b = (a ++ [r]) ++ b by simp]
        exact Kf_append hkb _
      rw [hKf]
      refine ldAll_is h3 (cntL ops b - k) j (Kf ops H0 b k) hj fun m jm Km hm hl => ?_
      obtain ⟨c, q, d, hb2, rfl, hc, hcnt⟩ := (KL_get b m jm Km hl).2.2 (by omega)
      cases hp : preB ops q.i r.i with
      | false => rfl
      | true =>
        exfalso
        have hR2 : R = (a ++ r :: c) ++ q :: d := by rw [h, hb2]; simp
        have := hk1 q.i (G.ids q (memR hR2)) (chB_is.1 hc) ⟨G.ids q (memR hR2), hp⟩
        rw [num_at G.dif hR2] at this
        omega
    k2 := fun i hi hk hw => by
      obtain ⟨a, r, b, h, e1, hrec, _, hok⟩ := at_ i hi
      rw [hrec] at hw ⊢
      have := hok.z2 (by rw [e1]; exact hk) hw
      rw [e1] at this; exact this
    kz := fun i hi => by have := S.knd i hi; omega
    blk0 := fun i hi hk => by
      obtain ⟨a, r, b, h, e1, hrec, _, hok⟩ := at_ i hi
      rw [hrec]
      cases e : r.blk with
      | none => rfl
      | some x => exact absurd (by rw [← e1]; exact (hok.frs x e).1) hk
    kst := by
      have : ∀ rs : List Rec, Kf ops H0 rs 0 = H0 := fun rs => by
        induction rs with
        | nil => rfl
        | cons r rs ih => simp only [Kf]; rw [if_neg (fun h => by omega)]; exact ih
      exact this R
    kst' := fun i hi hk => by
      obtain ⟨a, r, b, h, e1, hrec, hnum, hok⟩ := at_ i hi
      rw [hrec, hnum]
      have hc : chB ops r.i = true := by rw [e1]; exact chB_is.2 hk
      have e : cntL ops (r :: b) = cntL ops b + 1 := by simp [cntL, hc]
      have : Kf ops H0 R (cntL ops b + 1) = Kf ops H0 (r :: b) (cntL ops b + 1) := by rw [h]; exact Kf_append (by omega) a
      rw [this]
      simp only [Kf]; rw [if_pos ⟨hc, trivial⟩]
    ord := fun i j hi hj hk1 hk2 hlt => by
      obtain ⟨a, r, b, h1, rfl, _, n1, _⟩ := at_ i hi
      obtain ⟨c, q, d, h2, rfl, _, n2, _⟩ := at_ j hj
      rw [n1, n2] at hlt
      exact newer h1 h2 (chB_is.2 hk2) (by omega) (fun e => by rw [e, n2] at n1; omega)
    inj := fun i j hi hj hk1 hk2 he => by
      obtain ⟨a, r, b, h1, rfl, _, n1, _⟩ := at_ i hi
      obtain ⟨c, q, d, h2, rfl, _, n2, _⟩ := at_ j hj
      rw [n1, n2] at he
      rcases two_at G.dif h1 h2 with ⟨rfl, _⟩ | ⟨e, hh⟩ | ⟨e, hh⟩
      · rfl
      · have := cnt_lt (ops := ops) (a := e) (b := d) (chB_is.2 hk2)
        rw [← hh] at this; omega
      · have := cnt_lt (ops := ops) (a := e) (b := b) (chB_is.2 hk1)
        rw [← hh] at this; omega
    full := fun i hi hk k hlt => by
      obtain ⟨a, r, b, h1, rfl, _, n1, _⟩ := at_ i hi
      rw [n1] at hlt
      obtain ⟨c, q, d, hb, hc, hcnt⟩ := cnt_full b k hlt
      have hR2 : R = (a ++ r :: c) ++ q :: d := by rw [h1, hb]; simp
      exact ⟨q.i, G.ids q (memR hR2), chB_is.1 hc, by rw [num_at G.dif hR2]; exact hcnt⟩
    mem := fun i hi hk id x e => by
      obtain ⟨a, r, b, h1, rfl, hrec, n1, hok⟩ := at_ i hi
      rw [hrec] at e
      rw [n1]
      rcases hok.mem hk id x e with ⟨j, K, tl, h2, h3⟩ | ⟨q, hq, hc, hx, hp, hn⟩
      · left
        have h4 : (KL ops H0 b)[0]? = some (j, K) := by rw [h2]; rfl
        have h5 := (KL_get b 0 j K h4).2.1
        have : Kf ops H0 R (cntL ops b) = Kf ops H0 b (cntL ops b) := by
          rw [h1, show a ++ r :: b = (a ++ [r]) ++ b by simp]
          exact Kf_append (Nat.le_refl _) _
        rw [this, ← Nat.sub_zero (cntL ops b), ← h5]; exact h3
      · right
        obtain ⟨c, d, hb⟩ := List.append_of_mem hq
        have hR2 : R = (a ++ r :: c) ++ q :: d := by rw [h1, hb]; simp
        refine ⟨q.i, G.ids q (memR hR2), ⟨G.ids q (memR hR2), hp⟩, fun l hl hl2 hlt hpl => ?_, ?_, ?_⟩
        · obtain ⟨e2, p, f, h6, rfl, _, n2, _⟩ := at_ l hl
          rw [n2] at hlt
          have hpb : p ∈ b := by
            rcases two_at G.dif h1 h6 with ⟨rfl, _⟩ | ⟨e, he⟩ | ⟨e, he⟩
            · rw [n1] at n2; omega
            · rw [he]; simp
            · have := cnt_lt (ops := ops) (a := e) (b := b) (chB_is.2 hk)
              rw [← he] at this; omega
          have h7 := hpl.2
          rw [hn p hpb (chB_is.2 hl2)] at h7
          cases h7
        · rw [rec_at G.dif hR2]; exact hc.symm
        · rw [rec_at G.dif hR2]; exact hx
    fresh := fun j hj x hx k hn hf => by
      obtain ⟨a, r, b, h1, rfl, hrec, n1, hok⟩ := at_ j hj
      rw [hrec] at hx ⊢
      obtain ⟨hk0, hfr⟩ := hok.frs x hx
      have hkb : k ≤ cntL ops b := bound h1 hn hf (by rw [hk0]; decide)
      obtain ⟨j', hj'⟩ := KL_at (ops := ops) (H0 := H0) b hkb
      have hKf : Kf ops H0 R k = Kf ops H0 b k := by
        rw [h1, show a ++ r :: b = (a ++ [r]) ++ b by simp]
        exact Kf_append hkb _
      rw [hKf]
      exact hfr _ (List.mem_of_getElem? hj')
    acy := fun i hi hp => by have h7 := hp.2; rw [S.acy i hi] at h7; cases h7
    trn := fun i j k => pre_trans S
    lt := fun i j hj hp => hp.1 }
end Go.Proofs.YtmhnnfponloihaaDoor
