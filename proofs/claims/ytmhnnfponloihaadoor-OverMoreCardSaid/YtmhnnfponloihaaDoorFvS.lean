/- The plan of a region that draws its order, found and tested quickly. No Go program in this text. -/
import Derived.Test.YtmhnnfponloihaaDoorFvA
set_option linter.unusedSimpArgs false
set_option linter.unusedVariables false
namespace Go.Proofs.YtmhnnfponloihaaDoor
open Go.RowKit
variable {P : Program} {N : Nat}

theorem allI_intro {f : Nat → Oper → Bool} : ∀ {l : List Oper} {k : Nat}, (∀ j o, l[j]? = some o → f (k + j) o = true) → allI f k l = true
  | [], _, _ => rfl
  | o :: l, k, H => by
    simp only [allI, Bool.and_eq_true]
    exact ⟨H 0 o rfl, allI_intro fun j q h => by rw [show Nat.succ k + j = k + (j + 1) by omega]; exact H (j + 1) q (by simpa using h)⟩
/-- What stands ahead of one, as a number. -/
noncomputable def stepT (b : T Nat) (l : List Edge) : Nat → Nat :=
  List.rec (motive := fun _ => Nat → Nat) (fun s => s) (fun e _ ih s => onB (Region.binds .any e) (ih (Nat.lor (Nat.lor s (Nat.pow 2 e.on)) (onO (b.get e.on) 0 fun x => x))) (ih s)) l
theorem stepT_is {b : T Nat} {acc : Array Nat} (h : ∀ j, b.get j = acc[j]?) : ∀ (l : List Edge) (s : Nat), stepT b l s = l.foldl (fun s e => if Region.binds .any e then s ||| 2 ^ e.on ||| acc.getD e.on 0 else s) s
  | [], s => rfl
  | e :: l, s => by
    show onB (Region.binds .any e) (stepT b l (Nat.lor (Nat.lor s (Nat.pow 2 e.on)) (onO (b.get e.on) 0 fun x => x))) (stepT b l s) = _
    rw [List.foldl_cons, stepT_is h l, stepT_is h l, h]
    have : onO acc[e.on]? 0 (fun x => x) = acc.getD e.on 0 := by
      rw [Array.getD_eq_getD_getElem?]
      cases acc[e.on]? <;> rfl
    rw [this]
    cases Region.binds .any e <;> rfl
noncomputable def befL (l : List Oper) : Nat → T Nat → T Nat :=
  List.rec (motive := fun _ => Nat → T Nat → T Nat) (fun _ b => b) (fun o _ ih i b => (b.put i (stepT b o.after.toList 0)).seq fun b => ih (Nat.succ i) b) l
theorem befL_is : ∀ (l : List Oper) (b : T Nat) (acc : Array Nat), (∀ j, b.get j = acc[j]?) → ∀ j, (befL l acc.size b).get j = (l.foldl (fun acc o => acc.push (stepB acc o)) acc)[j]?
  | [], b, acc, h, j => h j
  | o :: l, b, acc, h, j => by
    show ((b.put acc.size (stepT b o.after.toList 0)).seq fun b => befL l (Nat.succ acc.size) b).get j = _
    rw [T.seq_eq, List.foldl_cons]
    have hs : (acc.push (stepB acc o)).size = Nat.succ acc.size := by simp
    rw [← hs]
    refine befL_is l _ _ (fun j => ?_) j
    rw [T.get_put, stepT_is h, Array.getElem?_push]
    have : o.after.toList.foldl (fun s e => if Region.binds .any e then s ||| 2 ^ e.on ||| acc.getD e.on 0 else s) 0 = stepB acc o := by
      unfold stepB; rw [← Array.foldl_toList]
    rw [this, h]
noncomputable def bef (ops : Array Oper) : T Nat := befL ops.toList 0 .nil
theorem bef_is (ops : Array Oper) (j : Nat) : (bef ops).get j = (Region.before ops)[j]? := by
  have := befL_is ops.toList .nil #[] (fun j => by rw [T.get_nil]; simp) j
  rw [before_is]; exact this
noncomputable def bOf (b : T Nat) (i : Nat) : Nat := onO (b.get i) 0 fun x => x
theorem bOf_is (ops : Array Oper) (i : Nat) : bOf (bef ops) i = (Region.before ops).getD i 0 := by
  unfold bOf
  rw [bef_is, Array.getD_eq_getD_getElem?]
  cases (Region.before ops)[i]? <;> rfl
/-- Who writes a slot. -/
noncomputable def wrL (l : List Oper) : Nat → T Nat → T Nat :=
  List.rec (motive := fun _ => Nat → T Nat → T Nat) (fun _ b => b) (fun o _ ih i b => onO o.dst (ih (Nat.succ i) b) fun d => (b.put d i).seq fun b => ih (Nat.succ i) b) l
noncomputable def allF {α : Type} (f : α → Bool) (l : List α) : Bool := List.rec (motive := fun _ => Bool) true (fun a _ ih => onB (f a) ih false) l
theorem allF_eq {α : Type} (f : α → Bool) : ∀ l : List α, allF f l = l.all f
  | [] => rfl
  | a :: l => by
    show onB (f a) (allF f l) false = _
    rw [allF_eq f l, List.all_cons]; cases f a <;> rfl
noncomputable def chF (l : List Oper) : Nat → Nat := List.rec (motive := fun _ => Nat → Nat) (fun _ => 0) (fun o _ ih k => onB (Nat.beq (kindOf o.op) 2) (Nat.lor (Nat.pow 2 k) (ih (Nat.succ k))) (ih (Nat.succ k))) l
theorem chF_eq : ∀ (l : List Oper) (k : Nat), chF l k = chMask k l
  | [], _ => rfl
  | o :: l, k => by
    show onB (Nat.beq (kindOf o.op) 2) (Nat.lor (Nat.pow 2 k) (chF l (Nat.succ k))) (chF l (Nat.succ k)) = _
    rw [chF_eq l]; simp only [chMask, onB_eq']
    where onB_eq' {α : Type} {b : Bool} {x y : α} : onB b x y = bif b then x else y := by cases b <;> rfl
noncomputable def and2 (a b : Bool) : Bool := onB a b false
theorem and2_eq (a b : Bool) : and2 a b = (a && b) := by cases a <;> rfl
noncomputable def or2 (a b : Bool) : Bool := onB a true b
theorem or2_eq (a b : Bool) : or2 a b = (a || b) := by cases a <;> rfl
/-- What the plan needs of one operation. -/
noncomputable def st1F (ops : Array Oper) (b W : T Nat) (N n chm i : Nat) (o : Oper) : Bool :=
  and2 (gdB ops (bOf b i) o) (and2 (allF (fun e => onB (Region.binds .any e) (Nat.ble (Nat.succ e.on) i) true) o.after.toList)
    (and2 (onO o.dst true fun d => and2 (Nat.ble (Nat.succ d) N) (onO (W.get d) false fun j => Nat.beq i j))
      (and2 (allF (fun t => onO (W.get t) true fun k => or2 (tb (bOf b i) k) (or2 (tb (bOf b k) i) (Nat.beq k i))) (opTmps o.op))
        (and2 (onB (Nat.beq (kindOf o.op) 2) (Nat.beq (Nat.land (Nat.mod chm (Nat.pow 2 i)) (bOf b i)) (Nat.mod chm (Nat.pow 2 i))) true) (Nat.ble (kindOf o.op) 2)))))
noncomputable def stL (ops : Array Oper) (b W : T Nat) (N n chm : Nat) (l : List Oper) : Nat → Bool :=
  List.rec (motive := fun _ => Nat → Bool) (fun _ => true) (fun o _ ih i => onB (st1F ops b W N n chm i o) (ih (Nat.succ i)) false) l
theorem stL_is {ops : Array Oper} {b W : T Nat} {n chm : Nat} : ∀ {l : List Oper} {k : Nat}, stL ops b W N n chm l k = true → ∀ j o, l[j]? = some o → st1F ops b W N n chm (k + j) o = true
  | [], _, _, j, o, h => by simp at h
  | x :: l, k, h, j, o, e => by
    have h : onB (st1F ops b W N n chm k x) (stL ops b W N n chm l (Nat.succ k)) false = true := h
    cases hx : st1F ops b W N n chm k x with
    | false => rw [hx] at h; cases h
    | true =>
      rw [hx] at h
      cases j with
      | zero => simp at e; subst e; exact hx
      | succ j =>
        have := stL_is (l := l) (k := Nat.succ k) h j o (by simpa using e)
        rw [show k + (j + 1) = Nat.succ k + j by omega]; exact this
theorem stat_of {ops : Array Oper} {W : T Nat} {n : Nat} (h : stL ops (bef ops) W N n (chF ops.toList 0) ops.toList 0 = true) : statB ops N = true := by
  have H : ∀ i o, ops.toList[i]? = some o → st1F ops (bef ops) W N n (chF ops.toList 0) i o = true := fun i o e => by
    have := stL_is h i o e
    rwa [Nat.zero_add] at this
  have hW : ∀ i o d, ops.toList[i]? = some o → o.dst = some d → W.get d = some i := fun i o d e hd => by
    have := H i o e
    simp only [st1F, and2_eq, Bool.and_eq_true, hd, onO_some] at this
    obtain ⟨_, _, ⟨_, hw⟩, _⟩ := this
    cases hg : W.get d with
    | none => rw [hg] at hw; cases hw
    | some j =>
      rw [hg] at hw
      have : Nat.beq i j = true := hw
      rw [Nat.beq_eq] at this; rw [this]
  refine allI_intro fun i o e => ?_
  rw [Nat.zero_add]
  have hi := H i o e
  simp only [st1F, and2_eq, Bool.and_eq_true, allF_eq, bOf_is, chF_eq, or2_eq] at hi
  obtain ⟨h1, h2, h3, h4, h5, h6⟩ := hi
  unfold stat1
  simp only [Bool.and_eq_true]
  refine ⟨?_, ?_, ?_, ?_, ?_, h6⟩
  · exact h1
  · rw [List.all_eq_true] at h2 ⊢
    intro x hx
    have := h2 x hx
    cases hb : Region.binds .any x with
    | false => rfl
    | true =>
      rw [hb] at this
      have t : Nat.ble (Nat.succ x.on) i = true := this
      rw [t]; rfl
  · cases hd : o.dst with
    | none => rfl
    | some d =>
      simp only [hd, onO_some, Bool.and_eq_true] at h3
      simp only [Bool.and_eq_true]
      refine ⟨h3.1, allI_intro fun j q hq => ?_⟩
      rw [Nat.zero_add]
      cases hqd : q.dst with
      | none => rfl
      | some e2 =>
        simp only [Bool.or_eq_true, Bool.not_eq_true']
        by_cases hh : e2 = d
        · subst hh
          have k1 := hW i o e2 e hd
          have k2 := hW j q e2 hq hqd
          rw [k1] at k2; cases k2
          exact .inr (beq_t rfl)
        · exact .inl (beq_f hh)
  · rw [List.all_eq_true] at h4 ⊢
    intro t ht
    have ht' := h4 t ht
    refine allI_intro fun k q hq => ?_
    rw [Nat.zero_add]
    cases hqd : q.dst with
    | none => rfl
    | some e2 =>
      simp only [Bool.or_eq_true, Bool.not_eq_true']
      by_cases hh : e2 = t
      · subst hh
        rw [hW k q e2 hq hqd] at ht'
        simp only [onO_some, Bool.or_eq_true] at ht'
        refine .inr ?_
        rcases ht' with g | g | g
        · exact .inl g
        · refine .inr (.inl ?_)
          unfold preB
          rw [Bool.and_eq_true]
          refine ⟨?_, by rw [← tb_eq]; exact g⟩
          rw [Nat.ble_eq]
          have : k < ops.size := by simpa using (List.getElem?_eq_some_iff.1 hq).1
          exact this
        · exact .inr (.inr g)
      · exact .inl (beq_f hh)
  · rw [Bool.or_eq_true, Bool.not_eq_true']
    cases hk : Nat.beq (kindOf o.op) 2 with
    | false => exact .inl rfl
    | true => rw [hk] at h5; exact .inr h5
/- The plan. -/
noncomputable def filF (f : Nat → Bool) (l : List Nat) : List Nat := List.rec (motive := fun _ => List Nat) [] (fun a _ ih => onB (f a) (a :: ih) ih) l
noncomputable def idx (l : List Oper) : Nat → List Nat := List.rec (motive := fun _ => Nat → List Nat) (fun _ => []) (fun _ _ ih i => i :: ih (Nat.succ i)) l
noncomputable def goF (b : T Nat) (all : List Nat) (ch : List Nat) : Nat → List Nat :=
  List.rec (motive := fun _ => Nat → List Nat) (fun dm => filF (fun i => onB (tb dm i) false true) all) (fun j _ ih dm => filF (fun i => onB (tb (bOf b j) i) (onB (tb dm i) false true) false) all ++ j :: ih (Nat.lor (Nat.lor dm (bOf b j)) (Nat.pow 2 j))) ch
noncomputable def planF (ops : Array Oper) : List Nat := (bef ops).seq fun b => goF b (idx ops.toList 0) (filF (fun i => tb (chF ops.toList 0) i) (idx ops.toList 0)) 0
noncomputable def plF (b : T Nat) (n chm : Nat) (l : List Nat) : Nat → Bool :=
  List.rec (motive := fun _ => Nat → Bool) (fun dm => Nat.beq dm (Nat.sub (Nat.pow 2 n) 1)) (fun i _ ih dm => and2 (Nat.ble (Nat.succ i) n) (and2 (onB (tb dm i) false true) (and2 (Nat.beq (Nat.land (bOf b i) dm) (bOf b i)) (and2 (onB (tb chm i) (Nat.beq (Nat.land dm (bOf b i)) dm) true) (ih (Nat.lor dm (Nat.pow 2 i))))))) l
theorem plF_is {ops : Array Oper} : ∀ {l : List Nat} {dm : Nat}, plF (bef ops) ops.size (chF ops.toList 0) l dm = true → planB ops dm l = true
  | [], dm, h => h
  | i :: l, dm, h => by
    have h : and2 (Nat.ble (Nat.succ i) ops.size) (and2 (onB (tb dm i) false true) (and2 (Nat.beq (Nat.land (bOf (bef ops) i) dm) (bOf (bef ops) i)) (and2 (onB (tb (chF ops.toList 0) i) (Nat.beq (Nat.land dm (bOf (bef ops) i)) dm) true) (plF (bef ops) ops.size (chF ops.toList 0) l (Nat.lor dm (Nat.pow 2 i)))))) = true := h
    simp only [and2_eq, Bool.and_eq_true, bOf_is] at h
    obtain ⟨h1, h2, h3, h4, h5⟩ := h
    simp only [planB, Bool.and_eq_true]
    refine ⟨h1, ?_, h3, ?_, plF_is h5⟩
    · cases e : tb dm i with
      | false => rfl
      | true => rw [e] at h2; cases h2
    · rw [Bool.or_eq_true, Bool.not_eq_true']
      cases hc : chB ops i with
      | false => exact .inl rfl
      | true =>
        refine .inr ?_
        rw [Nat.ble_eq] at h1
        have hlt : i < ops.size := h1
        have hk : kindOf (ops[i]).op = 2 := by
          have := hc
          unfold chB knd opO at this
          rw [Nat.beq_eq] at this
          rw [← this, Array.getD_eq_getD_getElem?, Array.getElem?_eq_getElem hlt]; rfl
        have := chMask_is (l := ops.toList) (k := 0) (j := i) (o := ops[i]) (by simp [hlt]) hk
        rw [Nat.zero_add, ← chF_eq, ← tb_eq] at this
        rw [this] at h4; exact h4
noncomputable def chkF (N : Nat) (ops : Array Oper) : Bool :=
  (bef ops).seq fun b => (wrL ops.toList 0 .nil).seq fun W => and2 (stL ops b W N ops.size (chF ops.toList 0) ops.toList 0) (plF b ops.size (chF ops.toList 0) (planF ops) 0)
theorem chkF_is {ops : Array Oper} (h : chkF N ops = true) : statB ops N = true ∧ planB ops 0 (planF ops) = true := by
  unfold chkF at h
  rw [T.seq_eq, T.seq_eq, and2_eq, Bool.and_eq_true] at h
  exact ⟨stat_of h.1, plF_is h.2⟩
end Go.Proofs.YtmhnnfponloihaaDoor
