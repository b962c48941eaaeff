/- The plan of a region that draws its order. No Go program in this text. -/
import Derived.Test.YtmhnnfponloihaaDoorEvR2
set_option linter.unusedSimpArgs false
set_option linter.unusedVariables false
namespace Go.Proofs.YtmhnnfponloihaaDoor
open Go.RowKit
variable {P : Program} {N : Nat}

mutual
noncomputable def eqV : AV → AV → Bool
  | .b x, .b y => x == y
  | .i j x, .i k y => eqK j k && eqI x y
  | .s n d, .s m e => Nat.beq n m && Nat.beq d e
  | .p i o, .p j q => Nat.beq i j && Nat.beq o q
  | .np, .np => true
  | .sl a b c d, .sl e f g h => Nat.beq a e && (Nat.beq b f && (Nat.beq c g && Nat.beq d h))
  | .su a b c, .su e f g => Nat.beq a e && (Nat.beq b f && Nat.beq c g)
  | .gs a b, .gs e f => Nat.beq a e && Nat.beq b f
  | .ns, .ns => true
  | .fn f l, .fn g m => Nat.beq f g && eqVs l m
  | .nf, .nf => true
  | .ifc t x, .ifc u y => Nat.beq t u && eqV x y
  | .ni, .ni => true
  | .mp i, .mp j => Nat.beq i j
  | .nm, .nm => true
  | .agg l, .agg m => eqVs l m
  | .tup l, .tup m => eqVs l m
  | _, _ => false
noncomputable def eqVs : AVs → AVs → Bool
  | .nil, .nil => true
  | .cons a l, .cons b m => eqV a b && eqVs l m
  | _, _ => false
end
mutual
theorem eqV_eq : ∀ (x y : AV), eqV x y = true → x = y
  | .b x, y, h => by cases y <;> simp [eqV] at h; rw [h]
  | .i j x, y, h => by
    cases y <;> simp only [eqV, Bool.and_eq_true] at h <;> first
      | (cases h; done)
      | (obtain ⟨h1, h2⟩ := h; rw [eqI_eq, decide_eq_true_iff] at h2; rw [eqK_eq h1, h2])
  | .s n d, y, h => by cases y <;> simp only [eqV, Bool.and_eq_true, Nat.beq_eq] at h <;> first | (cases h; done) | (obtain ⟨h1, h2⟩ := h; rw [h1, h2])
  | .p i o, y, h => by cases y <;> simp only [eqV, Bool.and_eq_true, Nat.beq_eq] at h <;> first | (cases h; done) | (obtain ⟨h1, h2⟩ := h; rw [h1, h2])
  | .np, y, h => by cases y <;> first | rfl | simp [eqV] at h
  | .sl a b c d, y, h => by cases y <;> simp only [eqV, Bool.and_eq_true, Nat.beq_eq] at h <;> first | (cases h; done) | (obtain ⟨h1, h2⟩ := h; rw [h1, h2.1, h2.2.1, h2.2.2])
  | .su a b c, y, h => by cases y <;> simp only [eqV, Bool.and_eq_true, Nat.beq_eq] at h <;> first | (cases h; done) | (obtain ⟨h1, h2⟩ := h; rw [h1, h2.1, h2.2])
  | .gs a b, y, h => by cases y <;> simp only [eqV, Bool.and_eq_true, Nat.beq_eq] at h <;> first | (cases h; done) | (obtain ⟨h1, h2⟩ := h; rw [h1, h2])
  | .ns, y, h => by cases y <;> first | rfl | simp [eqV] at h
  | .fn f l, y, h => by cases y <;> simp only [eqV, Bool.and_eq_true, Nat.beq_eq] at h <;> first | (cases h; done) | (obtain ⟨h1, h2⟩ := h; rw [h1, eqVs_eq _ _ h2])
  | .nf, y, h => by cases y <;> first | rfl | simp [eqV] at h
  | .yl _, y, h => by cases y <;> simp [eqV] at h
  | .r _ _ _, y, h => by cases y <;> simp [eqV] at h
  | .ifc t x, y, h => by cases y <;> simp only [eqV, Bool.and_eq_true, Nat.beq_eq] at h <;> first | (cases h; done) | (obtain ⟨h1, h2⟩ := h; rw [h1, eqV_eq _ _ h2])
  | .ni, y, h => by cases y <;> first | rfl | simp [eqV] at h
  | .mp _, y, h => by cases y <;> simp [eqV] at h; rw [h]
  | .nm, y, h => by cases y <;> first | rfl | simp [eqV] at h
  | .agg l, y, h => by cases y <;> simp only [eqV] at h <;> first | (cases h; done) | rw [eqVs_eq _ _ h]
  | .tup l, y, h => by cases y <;> simp only [eqV] at h <;> first | (cases h; done) | rw [eqVs_eq _ _ h]
theorem eqVs_eq : ∀ (x y : AVs), eqVs x y = true → x = y
  | .nil, y, h => by cases y <;> first | rfl | simp [eqVs] at h
  | .cons a l, y, h => by cases y <;> simp only [eqVs, Bool.and_eq_true] at h <;> first | (cases h; done) | (obtain ⟨h1, h2⟩ := h; rw [eqV_eq _ _ h1, eqVs_eq _ _ h2])
end
/-- Does j stand ahead of i, in whatever order? -/
def preB (ops : Array Oper) (j i : Nat) : Bool := Nat.ble (Nat.succ i) ops.size && Nat.testBit ((Region.before ops).getD i 0) j
def chB (ops : Array Oper) (i : Nat) : Bool := Nat.beq (knd ops i) 2
def opTmps (op : Op) : List Nat := op.operands.toList.filterMap fun | .tmp t => some t | _ => none
/-- Those of the third kind, as one number. -/
def chMask : Nat → List Oper → Nat
  | _, [] => 0
  | k, o :: l => bif Nat.beq (kindOf o.op) 2 then Nat.lor (Nat.pow 2 k) (chMask (Nat.succ k) l) else chMask (Nat.succ k) l
theorem chMask_is : ∀ {l : List Oper} {k j : Nat} {o : Oper}, l[j]? = some o → kindOf o.op = 2 → (chMask k l).testBit (k + j) = true
  | [], k, j, o, e, h => by simp at e
  | x :: l, k, j, o, e, h => by
    simp only [chMask]
    cases j with
    | zero =>
      simp at e; subst e
      rw [h]
      show (bif Nat.beq 2 2 then Nat.lor (Nat.pow 2 k) (chMask (Nat.succ k) l) else chMask (Nat.succ k) l).testBit (k + 0) = true
      have : Nat.lor (Nat.pow 2 k) (chMask (Nat.succ k) l) = 2 ^ k ||| chMask (Nat.succ k) l := rfl
      rw [show Nat.beq 2 2 = true from rfl, cond_true, this, Nat.testBit_or, Nat.testBit_two_pow]; simp
    | succ j =>
      have ih := chMask_is (k := Nat.succ k) (show l[j]? = some o by simpa using e) h
      rw [show Nat.succ k + j = k + (j + 1) by omega] at ih
      cases Nat.beq (kindOf x.op) 2 with
      | false => rw [cond_false]; exact ih
      | true =>
        have : Nat.lor (Nat.pow 2 k) (chMask (Nat.succ k) l) = 2 ^ k ||| chMask (Nat.succ k) l := rfl
        rw [cond_true, this, Nat.testBit_or, ih]; simp
/-- A test that it hangs on stands ahead. -/
def gdB (ops : Array Oper) (b : Nat) (o : Oper) : Bool :=
  match o.guard with
  | none => true
  | some (j, _) => tb b j && ((ops[j]?).bind (·.dst)).isSome
/-- What the plan needs of one operation: b is what stands ahead of it. -/
def stat1 (ops : Array Oper) (N chm b i : Nat) (o : Oper) : Bool :=
  gdB ops b o && ((o.after.toList.all fun e => !Region.binds .any e || Nat.ble (Nat.succ e.on) i) &&
    ((match o.dst with | some d => Nat.ble (Nat.succ d) N && allI (fun j q => match q.dst with | some e => !Nat.beq e d || Nat.beq i j | none => true) 0 ops.toList | none => true) &&
    (((opTmps o.op).all fun t => allI (fun k q => match q.dst with | some e => !Nat.beq e t || (tb b k || (preB ops i k || Nat.beq k i)) | none => true) 0 ops.toList) &&
    ((!Nat.beq (kindOf o.op) 2 || Nat.beq (Nat.land (chm % Nat.pow 2 i) b) (chm % Nat.pow 2 i)) && Nat.ble (kindOf o.op) 2))))
/-- What the plan needs of a region's text. -/
def statB (ops : Array Oper) (N : Nat) : Bool := allI (fun i o => stat1 ops N (chMask 0 ops.toList) ((Region.before ops).getD i 0) i o) 0 ops.toList
/-- The plan. -/
def planL (ops : Array Oper) : List Nat :=
  let r := List.range ops.size
  let acc := (r.filter (chB ops)).foldl (fun (acc : List Nat × Nat) j => (acc.1 ++ (r.filter fun i => tb ((Region.before ops).getD j 0) i && !tb acc.2 i) ++ [j], Nat.lor (Nat.lor acc.2 ((Region.before ops).getD j 0)) (Nat.pow 2 j))) ([], 0)
  acc.1 ++ r.filter fun i => !tb acc.2 i
/-- dm: what is done. -/
def planB (ops : Array Oper) : Nat → List Nat → Bool
  | dm, [] => Nat.beq dm (Nat.sub (Nat.pow 2 ops.size) 1)
  | dm, i :: l => Nat.ble (Nat.succ i) ops.size && (!tb dm i && (Nat.beq (Nat.land ((Region.before ops).getD i 0) dm) ((Region.before ops).getD i 0) &&
      ((!chB ops i || Nat.beq (Nat.land dm ((Region.before ops).getD i 0)) dm) && planB ops (Nat.lor dm (Nat.pow 2 i)) l)))
/-- What is told of one. -/
structure Rec where
  i : Nat
  v : AV
  c : Nat
  c' : Nat
  blk : Option AO
  st : T AO
  st' : T AO
  slr : T AV
  w : Bool
structure PS where
  sl : T AV
  st : T AO
  nx : Nat
  Ks : List (Nat × T AO)
  pend : List Rec
noncomputable def rst (sl : T AV) : List Nat → T AV
  | [] => .nil
  | t :: l => match sl.get t with
    | some v => (rst sl l).put t v
    | none => rst sl l
theorem rst_get {sl : T AV} (l : List Nat) : ∀ {t : Nat} {x : AV}, (rst sl l).get t = some x → t ∈ l ∧ sl.get t = some x := by
  induction l with
  | nil =>
    intro t x e
    have e1 : (T.nil : T AV).get t = some x := e
    exact absurd ((T.get_nil t).symm.trans e1) (fun h => nomatch h)
  | cons u l ih =>
    intro t x e
    simp only [rst] at e
    split at e
    · rename_i v hv
      rw [T.get_put] at e
      split at e
      · rename_i h; subst h; cases e; exact ⟨List.mem_cons_self .., hv⟩
      · obtain ⟨h1, h2⟩ := ih e
        exact ⟨List.mem_cons_of_mem _ h1, h2⟩
    · obtain ⟨h1, h2⟩ := ih e
      exact ⟨List.mem_cons_of_mem _ h1, h2⟩
/-- A load that may be done now, or ahead of some that need not be done. -/
noncomputable def ldAll (P : Program) (ops : Array Oper) (i : Nat) (t : TypeId) (p : AV) : List (Nat × T AO) → Option AV
  | [] => none
  | (j, K) :: rest => match evLoad P K t p with
    | none => none
    | some v => match rest with
      | [] => some v
      | _ :: _ => bif preB ops j i then some v else match ldAll P ops i t p rest with
        | some v' => bif eqV v v' then some v else none
        | none => none
theorem ldAll_is {ops : Array Oper} {i : Nat} {t : TypeId} {p v : AV} : ∀ {l : List (Nat × T AO)}, ldAll P ops i t p l = some v → ∀ (k j : Nat) (K : T AO), l[k]? = some (j, K) → (∀ (m jm : Nat) (Km : T AO), m < k → l[m]? = some (jm, Km) → preB ops jm i = false) → evLoad P K t p = some v
  | [], e, _, _, _, _, _ => by simp [ldAll] at e
  | (j0, K0) :: rest, e, k, j, K, hk, hn => by
    simp only [ldAll] at e
    cases h0 : evLoad P K0 t p with
    | none => simp [h0] at e
    | some v0 =>
      simp only [h0] at e
      cases k with
      | zero =>
        simp at hk
        obtain ⟨rfl, rfl⟩ := hk
        split at e
        · cases e; exact h0
        · cases hb : preB ops j0 i with
          | true => rw [hb, cond_true] at e; cases e; exact h0
          | false =>
            rw [hb, cond_false] at e
            split at e
            · obtain ⟨_, e⟩ := bif_some e
              cases e; exact h0
            · cases e
      | succ k =>
        have hb := hn 0 j0 K0 (by omega) rfl
        split at e
        · simp at hk
        · rw [hb, cond_false] at e
          split at e
          · rename_i v' hv'
            obtain ⟨he, e⟩ := bif_some e
            cases e
            have := eqV_eq _ _ he
            subst this
            exact ldAll_is hv' k j K (by simpa using hk) fun m jm Km hm hl => hn (m + 1) jm Km (by omega) (by simpa using hl)
          · cases e
/-- Whatever of the third kind stands behind j stands behind i. -/
def standB (ops : Array Oper) (j i : Nat) : Bool := allI (fun l o => !Nat.beq (kindOf o.op) 2 || (!preB ops j l || preB ops i l)) 0 ops.toList
/-- A load of what this region has made. -/
noncomputable def ldPend (P : Program) (ops : Array Oper) (i : Nat) (t : TypeId) (p : AV) : List Rec → Option AV
  | [] => none
  | q :: rest => match p with
    | .p id _ => bif Nat.beq q.c id then (match q.blk with
        | some b => bif preB ops q.i i && standB ops q.i i then evLoad P (nilH.put q.c b) t p else none
        | none => none) else ldPend P ops i t p rest
    | _ => none
theorem ldPend_is {ops : Array Oper} {i : Nat} {t : TypeId} {p v : AV} : ∀ {l : List Rec}, ldPend P ops i t p l = some v → ∃ q ∈ l, ∃ b, q.blk = some b ∧ preB ops q.i i = true ∧ standB ops q.i i = true ∧ evLoad P (nilH.put q.c b) t p = some v
  | [], e => by simp [ldPend] at e
  | q :: rest, e => by
    simp only [ldPend] at e
    split at e
    · cases hc : Nat.beq q.c _ with
      | true =>
        rw [hc, cond_true] at e
        split at e
        · rename_i b hb
          obtain ⟨h1, h2⟩ := bif_some' e
          rw [Bool.and_eq_true] at h1
          exact ⟨q, List.mem_cons_self .., b, hb, h1.1, h1.2, h2⟩
        · cases e
      | false =>
        rw [hc, cond_false] at e
        obtain ⟨q', hq, h⟩ := ldPend_is e
        exact ⟨q', List.mem_cons_of_mem _ hq, h⟩
    · cases e
noncomputable def ldAny (P : Program) (ops : Array Oper) (i : Nat) (t : TypeId) (p : AV) (Ks : List (Nat × T AO)) (pend : List Rec) : Option AV :=
  match ldAll P ops i t p Ks with
  | some v => some v
  | none => ldPend P ops i t p pend
noncomputable def evStep1 (P : Program) (X call : Caller) (N : Nat) (ops : Array Oper) (i : Nat) (s : PS) : Option (Rec × PS) :=
  match kindOf (opO ops i) with
  | 0 => match evM P (rst s.sl (opTmps (opO ops i))) .nil s.nx (opO ops i) with
    | .ok v h1 nx1 => match putD N (opD ops i) v s.sl with
      | some sl1 => bif Nat.ble s.nx nx1 then match (bif Nat.beq nx1 (Nat.succ s.nx) then h1.get s.nx else none) with
        | some b => bif s.Ks.all (fun K => (K.2.get s.nx).isNone) then
            some (⟨i, v, s.nx, nx1, some b, s.st, s.st, rst s.sl (opTmps (opO ops i)), true⟩, ⟨sl1, s.st.put s.nx b, nx1, s.Ks, ⟨i, v, s.nx, nx1, some b, s.st, s.st, rst s.sl (opTmps (opO ops i)), true⟩ :: s.pend⟩) else none
        | none => some (⟨i, v, s.nx, nx1, none, s.st, s.st, rst s.sl (opTmps (opO ops i)), true⟩, ⟨sl1, s.st, nx1, s.Ks, s.pend⟩)
        else none
      | none => none
    | .bad => none
  | 1 => match opO ops i with
    | .load t x => match evX (rst s.sl (opTmps (opO ops i))) x with
      | some p => match ldAny P ops i t p s.Ks s.pend with
        | some v => match putD N (opD ops i) v s.sl with
          | some sl1 => some (⟨i, v, s.nx, s.nx, none, s.st, s.st, rst s.sl (opTmps (opO ops i)), true⟩, ⟨sl1, s.st, s.nx, s.Ks, s.pend⟩)
          | none => none
        | none => none
      | none => none
    | _ => none
  | _ => match evOper P X call (rst s.sl (opTmps (opO ops i))) s.st s.nx (opO ops i) with
    | .ok v h1 nx1 => match putD N (opD ops i) v s.sl with
      | some sl1 => bif Nat.ble s.nx nx1 then some (⟨i, v, s.nx, nx1, none, s.st, h1, rst s.sl (opTmps (opO ops i)), true⟩, ⟨sl1, h1, nx1, (i, h1) :: s.Ks, []⟩) else none
      | none => none
    | .bad => none
/-- One that is not done. -/
noncomputable def evSkip (N : Nat) (ops : Array Oper) (i : Nat) (s : PS) : Option (Rec × PS) :=
  match putD N (opD ops i) (.tup .nil) s.sl with
  | some sl1 => some (⟨i, .tup .nil, s.nx, s.nx, none, s.st, s.st, rst s.sl (opTmps (opO ops i)), false⟩, bif Nat.beq (knd ops i) 2 then ⟨sl1, s.st, s.nx, (i, s.st) :: s.Ks, []⟩ else ⟨sl1, s.st, s.nx, s.Ks, s.pend⟩)
  | none => none
noncomputable def evStep (P : Program) (X call : Caller) (N : Nat) (ops : Array Oper) (i : Nat) (s : PS) : Option (Rec × PS) :=
  match evWanted ops (ops.getD i default) s.sl with
  | some true => evStep1 P X call N ops i s
  | some false => evSkip N ops i s
  | none => none
noncomputable def evPlan (P : Program) (X call : Caller) (N : Nat) (ops : Array Oper) : List Nat → PS → Option (List Rec × PS)
  | [], s => some ([], s)
  | i :: l, s => match evStep P X call N ops i s with
    | some (r, s1) => match evPlan P X call N ops l s1 with
      | some (rs, s2) => some (r :: rs, s2)
      | none => none
    | none => none
/-- L: a plan, chk: what is asked of it. -/
noncomputable def evDrawG (chk : Array Oper → Bool) (L : Array Oper → List Nat) (P : Program) (X call : Caller) (N : Nat) : Drawer := fun ops sl h nx =>
  bif chk ops then match evPlan P X call N ops (L ops) ⟨sl, h, nx, [(ops.size, h)], []⟩ with
    | some (_, s) => .ok s.sl s.st s.nx
    | none => .bad
  else .bad
noncomputable def evDraw (P : Program) (X call : Caller) (N : Nat) : Drawer := fun ops sl h nx =>
  bif statB ops N && planB ops 0 (planL ops) then match evPlan P X call N ops (planL ops) ⟨sl, h, nx, [(ops.size, h)], []⟩ with
    | some (_, s) => .ok s.sl s.st s.nx
    | none => .bad
  else .bad
end Go.Proofs.YtmhnnfponloihaaDoor
