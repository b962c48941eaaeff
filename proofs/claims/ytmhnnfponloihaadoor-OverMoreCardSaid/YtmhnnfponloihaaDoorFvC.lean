/- A closed run, run quickly: calls, regions. No Go program in this text. -/
import Derived.Test.YtmhnnfponloihaaDoorFvB
import Derived.Test.YtmhnnfponloihaaDoorFvS
set_option linter.unusedSimpArgs false
set_option linter.unusedVariables false
namespace Go.Proofs.YtmhnnfponloihaaDoor
open Go.RowKit
variable {P : Program} {N : Nat} {G : FuncId → Bool} (hG : ∀ g, G g = true → fnOk P g = true)

/- What an operation sees of a frame: its operands. -/
theorem evXs_congr {sl sl' : T AV} : ∀ {l : List Operand}, (∀ x ∈ l, evX sl' x = evX sl x) → evXs sl' l = evXs sl l
  | [], _ => rfl
  | x :: l, H => by simp only [evXs]; rw [H x (List.mem_cons_self ..), evXs_congr fun y hy => H y (List.mem_cons_of_mem _ hy)]
theorem evParts_congr {sl sl' : T AV} : ∀ {l : List (Nat × Operand)}, (∀ x ∈ l.map (·.2), evX sl' x = evX sl x) → evParts sl' l = evParts sl l
  | [], _ => rfl
  | (i, x) :: l, H => by simp only [evParts]; rw [H x (by simp), evParts_congr fun y hy => H y (by simp at hy ⊢; exact .inr hy)]
theorem evB_congr {sl sl' : T AV} {x : Option Operand} (H : ∀ y ∈ x.toList, evX sl' y = evX sl y) : evB sl' x = evB sl x := by
  cases x with
  | none => rfl
  | some y => simp only [evB]; rw [H y (by simp)]
theorem evP_congr {sl sl' : T AV} {op : Op} (H : ∀ x ∈ op.operands.toList, evX sl' x = evX sl x) : evP P sl' op = evP P sl op := by
  cases op <;> simp only [evP] <;> simp only [Op.operands, List.mem_cons, List.not_mem_nil, or_false, forall_eq_or_imp, forall_eq] at H
  case move x => exact H
  case assign x => exact H
  case pick c x y => rw [H.1, H.2.1, H.2.2]
  case nilCheck x => rw [H]
  case binOp op t x y _ => rw [H.1, H.2]
  case unOp op t x => rw [H]
  case convert s d x => rw [H]
  case makeInterface t x => rw [H]
  case makeFunc f first cap =>
    cases f <;> simp only [evP]
    rw [evXs_congr fun x hx => H x (by simp at hx ⊢; exact .inr hx)]
  case slice t x lo hi mx =>
    rw [H x (by simp), evB_congr (x := lo) fun y hy => H y (by simp at hy ⊢; simp [hy]), evB_congr (x := hi) fun y hy => H y (by simp at hy ⊢; simp [hy]), evB_congr (x := mx) fun y hy => H y (by simp at hy ⊢; simp [hy])]
  case fieldAddr t x i => rw [H]
  case field t x i => rw [H]
  case indexAddr t x i => rw [H.1, H.2]
  case index t x i => rw [H.1, H.2]
  case extract x i => rw [H]
  case typeAssert x _ t ok => rw [H]
  case build t ps => rw [evParts_congr fun x hx => H x (by simpa using hx)]
theorem evM_congr {sl sl' : T AV} {h : T AO} {nx : Nat} {op : Op} (H : ∀ x ∈ op.operands.toList, evX sl' x = evX sl x) : evM P sl' h nx op = evM P sl h nx op := by
  have hp := evP_congr (P := P) H
  cases op <;> simp only [evM] <;> first | rfl | rw [hp] | skip
  all_goals simp only [Op.operands, List.mem_cons, List.not_mem_nil, or_false, forall_eq_or_imp, forall_eq] at H
  case box t x => rw [H]
  case buildSlice t n ps => rw [evParts_congr fun x hx => H x (by simpa using hx)]
  case load t x => rw [H]
  case store t x y => rw [H.1, H.2]
  case binOp op t x y _ => rw [H.1, H.2]
  case convert s d x => rw [H]
  case makeSlice t l c => rw [H.1, H.2]
  case range t x => rw [H]
  case next x b => rw [H]
  case makeMap t r =>
    cases r with
    | none => rfl
    | some x => simp only; rw [H x (by simp)]
  case lookup t x k ok => rw [H.1, H.2]
  case mapUpdate t m k x => rw [H.1, H.2.1, H.2.2]
  case insert t m k x => rw [H.1, H.2.1, H.2.2]
  case call c =>
    cases hc : c.callee with
    | value f => rfl
    | invoke r m => rfl
    | builtin b =>
      simp only
      rw [evXs_congr fun x hx => H x (by simp only [Call.operands, hc]; simpa using hx)]
theorem evOper_congr {X call : Caller} {sl sl' : T AV} {h : T AO} {nx : Nat} {op : Op} (H : ∀ x ∈ op.operands.toList, evX sl' x = evX sl x) : evOper P X call sl' h nx op = evOper P X call sl h nx op := by
  have hm := evM_congr (P := P) (h := h) (nx := nx) H
  cases op <;> simp only [evOper] <;> first | exact hm | skip
  rename_i c
  cases hc : c.callee with
  | value f =>
    simp only [Op.operands, Call.operands, hc] at H
    simp only
    rw [H f (by simp), evXs_congr fun x hx => H x (by simp; exact .inr (by simpa using hx))]
  | invoke r m => exact hm
  | builtin b => exact hm
theorem rst_in {sl : T AV} : ∀ {l : List Nat} {t : Nat}, t ∈ l → (rst sl l).get t = sl.get t := by
  intro l
  induction l with
  | nil => intro t h; cases h
  | cons u l ih =>
    intro t h
    simp only [rst]
    cases e : sl.get u with
    | none =>
      simp only
      rcases List.mem_cons.1 h with rfl | h
      · cases e2 : (rst sl l).get t with
        | none => exact e.symm
        | some x => rw [(rst_get _ e2).2] at e; cases e
      · exact ih h
    | some v =>
      simp only
      rw [T.get_put]
      split
      · rename_i hh; subst hh; exact e.symm
      · rename_i hh
        rcases List.mem_cons.1 h with h | h
        · exact absurd h hh
        · exact ih h
theorem rst_ops (sl : T AV) (op : Op) : ∀ x ∈ op.operands.toList, evX (rst sl (opTmps op)) x = evX sl x := by
  intro x hx
  cases x with
  | tmp t =>
    refine rst_in ?_
    unfold opTmps
    rw [List.mem_filterMap]
    exact ⟨_, hx, rfl⟩
  | _ => rfl
theorem app_nil : ∀ l : AVs, l.app .nil = l
  | .nil => rfl
  | .cons a l => by simp only [AVs.app, app_nil l]
abbrev OpC := Caller → T AV → T AO → Nat → R
noncomputable def cOper (P : Program) (X : Caller) (G : FuncId → Bool) (op : Op) : Hd OpC :=
  match op with
  | .call c => match c.callee with
    | .value (.func g) => (cXs c.args.toList).bind fun ga => onB (G g) (.mk fun call sl h nx => onO (ga sl) .bad fun l => call (.fn g) l h nx) (onB (fnOk P g) (.mk fun call sl h nx => onO (ga sl) .bad fun l => call (.fn g) l h nx) (.mk fun _ sl h nx => onO (ga sl) .bad fun l => X (.fn g) l h nx))
    | .value f => (cX f).bind fun gf => (cXs c.args.toList).bind fun ga => .mk fun call sl h nx => onO (gf sl) .bad fun v => onO (ga sl) .bad fun l => v.onFn .bad (fun g caps => onB (G g) (call (.fn g) (l.app caps) h nx) (onB (fnOk P g) (call (.fn g) (l.app caps) h nx) (X (.fn g) (l.app caps) h nx))) (fun id => call (.yl id) l h nx)
    | _ => (cM P op).bind fun f => .mk fun _ => f
  | op => (cM P op).bind fun f => .mk fun _ => f
include hG in
theorem cOper_eq (X call : Caller) (op : Op) (sl : T AV) (h : T AO) (nx : Nat) : (cOper P X G op).un call sl h nx = evOper P X call sl h nx op := by
  cases op <;> try (simp only [cOper, evOper, Hd.bind_eq, Hd.un_mk, cM_eq]; done)
  rename_i c
  simp only [cOper, evOper]
  have key : ∀ {g : FuncId} {l : AVs}, onB (G g) (call (.fn g) l h nx) (onB (fnOk P g) (call (.fn g) l h nx) (X (.fn g) l h nx)) = bif fnOk P g then call (.fn g) l h nx else X (.fn g) l h nx := by
    intro g l
    cases hg : G g with
    | true => rw [hG g hg]; rfl
    | false => show onB (fnOk P g) _ _ = _; exact onB_eq ..
  cases hc : c.callee with
  | value f =>
    cases f with
    | func g =>
      simp only [Hd.bind_eq, evX]
      have e : ∀ (A B : Hd OpC), (onB (G g) A (onB (fnOk P g) A B)).un call sl h nx = onB (G g) (A.un call sl h nx) (onB (fnOk P g) (A.un call sl h nx) (B.un call sl h nx)) := by
        intro A B; cases G g <;> cases fnOk P g <;> rfl
      rw [e]
      simp only [Hd.un_mk, cXs_eq]
      cases evXs sl c.args.toList with
      | none => cases G g <;> cases fnOk P g <;> rfl
      | some l =>
        simp only [onO_some, app_nil]
        exact key
    | _ =>
      simp only [Hd.bind_eq, Hd.un_mk, cXs_eq, cX_eq]
      cases evX sl _ with
      | none => rfl
      | some v =>
        cases evXs sl c.args.toList with
        | none => cases v <;> rfl
        | some l => cases v <;> first | rfl | exact key
  | invoke r m => simp only [Hd.bind_eq, Hd.un_mk, cM_eq]
  | builtin b => simp only [Hd.bind_eq, Hd.un_mk, cM_eq]
noncomputable def cPut (N : Nat) (dst : Option Nat) : Hd (T AV → AV → (T AV → RS) → RS) :=
  match dst with
  | none => .mk fun sl _ k => k sl
  | some d => onB (Nat.ble (Nat.succ d) N) ((T.putB d).bind fun p => .mk fun sl v k => (p sl (some v)).seq k) (.mk fun _ _ _ => .bad)
theorem cPut_eq (dst : Option Nat) (sl : T AV) (v : AV) (k : T AV → RS) : (cPut N dst).un sl v k = match putD N dst v sl with | some sl => k sl | none => .bad := by
  cases dst with
  | none => rfl
  | some d =>
    simp only [cPut, putD, onB_eq]
    cases Nat.ble (Nat.succ d) N with
    | false => rfl
    | true => simp only [cond_true, Hd.bind_eq, Hd.un_mk, T.seq_eq, T.put, T.put_def]
/-- Is an operation to be done? -/
noncomputable def cW (ops : Array Oper) (o : Oper) : Hd (T AV → Option Bool) :=
  match o.guard with
  | none => .mk fun _ => some true
  | some (j, want) => match (ops[j]?).bind (·.dst) with
    | some t => (T.getB t).bind fun g => onB want (.mk fun sl => onO (g sl) none fun v => v.onBT none (fun x => some x) fun _ => some false) (.mk fun sl => onO (g sl) none fun v => v.onBT none (fun x => some (onB x false true)) fun _ => some false)
    | none => .mk fun _ => none
theorem cW_eq (ops : Array Oper) (o : Oper) (sl : T AV) : (cW ops o).un sl = evWanted ops o sl := by
  unfold cW evWanted
  cases o.guard with
  | none => rfl
  | some jw =>
    obtain ⟨j, want⟩ := jw
    simp only
    cases (ops[j]?).bind (·.dst) with
    | none => rfl
    | some t =>
      simp only [Hd.bind_eq, T.get_def]
      cases want with
      | true =>
        show onO ((T.getB t).un sl) none _ = _
        cases (T.getB t).un sl with
        | none => rfl
        | some v =>
          cases v <;> try rfl
          rename_i b; cases b <;> rfl
      | false =>
        show onO ((T.getB t).un sl) none _ = _
        cases (T.getB t).un sl with
        | none => rfl
        | some v =>
          cases v <;> try rfl
          rename_i b; cases b <;> rfl
noncomputable def cOps (P : Program) (X : Caller) (G : FuncId → Bool) (N : Nat) (ops : Array Oper) : List Oper → Hd (Caller → T AV → T AO → Nat → RS)
  | [] => .mk fun _ sl h nx => .ok sl h nx
  | o :: rest => (cOper P X G o.op).bind fun f => (cPut N o.dst).bind fun p => (cOps P X G N ops rest).bind fun k => match o.guard with
    | none => .mk fun call sl h nx => (f call sl h nx).on .bad fun v h1 nx1 => onB (Nat.ble nx nx1) (p sl v fun sl => k call sl h1 nx1) .bad
    | some _ => (cW ops o).bind fun w => .mk fun call sl h nx => onO (w sl) .bad fun b => onB b ((f call sl h nx).on .bad fun v h1 nx1 => onB (Nat.ble nx nx1) (p sl v fun sl => k call sl h1 nx1) .bad) (p sl (.tup .nil) fun sl => k call sl h nx)
include hG in
theorem cOps_eq (X call : Caller) (ops : Array Oper) : ∀ (l : List Oper) (sl : T AV) (h : T AO) (nx : Nat), (cOps P X G N ops l).un call sl h nx = evOps P X call N ops l sl h nx
  | [], _, _, _ => rfl
  | o :: rest, sl, h, nx => by
    have go : ((cOper P X G o.op).un call sl h nx).on RS.bad (fun v h1 nx1 => onB (Nat.ble nx nx1) ((cPut N o.dst).un sl v fun sl => (cOps P X G N ops rest).un call sl h1 nx1) .bad) =
        (match evOper P X call sl h nx o.op with
          | .ok v h1 nx1 => bif Nat.ble nx nx1 then match putD N o.dst v sl with
            | some sl => evOps P X call N ops rest sl h1 nx1
            | none => .bad else .bad
          | .bad => .bad) := by
      rw [cOper_eq hG]
      cases evOper P X call sl h nx o.op with
      | bad => rfl
      | ok v h1 nx1 =>
        simp only [R.on, onB_eq]
        rw [cPut_eq]
        cases Nat.ble nx nx1 with
        | false => rfl
        | true =>
          simp only [cond_true]
          cases putD N o.dst v sl with
          | none => rfl
          | some sl' => exact cOps_eq X call ops rest _ _ _
    have no : ((cPut N o.dst).un sl (.tup .nil) fun sl => (cOps P X G N ops rest).un call sl h nx) = (match putD N o.dst (.tup .nil) sl with | some sl => evOps P X call N ops rest sl h nx | none => .bad) := by
      rw [cPut_eq]
      cases putD N o.dst (.tup .nil) sl with
      | none => rfl
      | some sl' => exact cOps_eq X call ops rest _ _ _
    simp only [cOps, evOps, Hd.bind_eq]
    cases hg : o.guard with
    | none =>
      have hw : evWanted ops o sl = some true := by unfold evWanted; rw [hg]
      simp only [Hd.un_mk, hw]
      exact go
    | some jw =>
      simp only [Hd.bind_eq, Hd.un_mk, cW_eq]
      cases evWanted ops o sl with
      | none => rfl
      | some b =>
        cases b with
        | true => exact go
        | false => exact no
/- The plan of a region that draws its order. -/
noncomputable def noneK (nx : Nat) (Ks : List (Nat × T AO)) : Bool := List.rec (motive := fun _ => Bool) true (fun K _ ih => onO (K.2.get nx) ih fun _ => false) Ks
theorem noneK_eq (nx : Nat) : ∀ Ks : List (Nat × T AO), noneK nx Ks = Ks.all fun K => (K.2.get nx).isNone
  | [] => rfl
  | K :: l => by
    show onO (K.2.get nx) (noneK nx l) (fun _ => false) = _
    rw [noneK_eq nx l, List.all_cons]
    cases K.2.get nx <;> rfl
noncomputable def ldK (ops : Array Oper) (i : Nat) (ld : T AV → Nat → Option AV) (a : AV) (Ks : List (Nat × T AO)) : Option AV :=
  List.rec (motive := fun _ => Option AV) none (fun K rest ih => onO (ldF ld K.2 a) none fun v => List.rec (motive := fun _ => Option AV) (some v) (fun _ _ _ => onB (preB ops K.1 i) (some v) (onO ih none fun v' => onB (eqV v v') (some v) none)) rest) Ks
theorem ldK_eq (ops : Array Oper) (i : Nat) (t : TypeId) (a : AV) : ∀ Ks : List (Nat × T AO), ldK ops i (cLd P t).un a Ks = ldAll P ops i t a Ks
  | [] => rfl
  | (j, K) :: rest => by
    show onO (ldF (cLd P t).un K a) none (fun v => List.rec (motive := fun _ => Option AV) (some v) (fun _ _ _ => onB (preB ops j i) (some v) (onO (ldK ops i (cLd P t).un a rest) none fun v' => onB (eqV v v') (some v) none)) rest) = _
    rw [ldF_eq, ldK_eq ops i t a rest]
    simp only [ldAll]
    cases evLoad P K t a with
    | none => rfl
    | some v =>
      cases rest with
      | nil => rfl
      | cons K2 r =>
        simp only [onO_some, onB_eq]
        cases preB ops j i with
        | true => rfl
        | false =>
          simp only [cond_false]
          cases ldAll P ops i t a (K2 :: r) <;> rfl
abbrev StK := T AV → T AO → Nat → List (Nat × T AO) → List Rec → RS
noncomputable def cStep1 (P : Program) (X : Caller) (G : FuncId → Bool) (N : Nat) (ops : Array Oper) (i : Nat) : Hd (Caller → T AV → T AO → Nat → List (Nat × T AO) → List Rec → StK → RS) :=
  match kindOf (opO ops i) with
  | 0 => (cM P (opO ops i)).bind fun f => (cPut N (opD ops i)).bind fun p => .mk fun _ sl st nx Ks pd k => (f sl .nil nx).on .bad fun v h1 nx1 => p sl v fun sl1 =>
      onB (Nat.ble nx nx1) (onB (Nat.beq nx1 (Nat.succ nx)) (onO (h1.get nx) (k sl1 st nx1 Ks pd) fun b => onB (noneK nx Ks) ((st.put nx b).seq fun st1 => k sl1 st1 nx1 Ks (⟨i, v, nx, nx1, some b, st, st, rst sl (opTmps (opO ops i)), true⟩ :: pd)) .bad) (k sl1 st nx1 Ks pd)) .bad
  | 1 => match opO ops i with
    | .load t x => (cX x).bind fun g => (cLd P t).bind fun ld => (cPut N (opD ops i)).bind fun p => .mk fun _ sl st nx Ks pd k => onO (g sl) .bad fun a => onO (ldK ops i ld a Ks) (onO (ldPend P ops i t a pd) .bad fun v => p sl v fun sl1 => k sl1 st nx Ks pd) fun v => p sl v fun sl1 => k sl1 st nx Ks pd
    | _ => .mk fun _ _ _ _ _ _ _ => .bad
  | _ => (cOper P X G (opO ops i)).bind fun f => (cPut N (opD ops i)).bind fun p => .mk fun call sl st nx Ks _ k => (f call sl st nx).on .bad fun v h1 nx1 => p sl v fun sl1 => onB (Nat.ble nx nx1) (k sl1 h1 nx1 ((i, h1) :: Ks) []) .bad
include hG in
theorem cStep1_eq (X call : Caller) (ops : Array Oper) (i : Nat) (sl : T AV) (st : T AO) (nx : Nat) (Ks : List (Nat × T AO)) (pend : List Rec) (k : StK) :
    (cStep1 P X G N ops i).un call sl st nx Ks pend k = match evStep1 P X call N ops i ⟨sl, st, nx, Ks, pend⟩ with | some (_, s) => k s.sl s.st s.nx s.Ks s.pend | none => .bad := by
  unfold cStep1 evStep1
  generalize kindOf (opO ops i) = kd
  match kd with
  | 0 =>
    simp only [Hd.bind_eq, Hd.un_mk, cM_eq]
    rw [evM_congr (sl' := rst sl (opTmps (opO ops i))) (rst_ops sl _)]
    have hn : (.nil : T AO) = T.nil := rfl
    cases evM P sl T.nil nx (opO ops i) with
    | bad => rfl
    | ok v h1 nx1 =>
      simp only [R.on]
      rw [cPut_eq]
      cases putD N (opD ops i) v sl with
      | none => rfl
      | some sl1 =>
        simp only [onB_eq]
        cases Nat.ble nx nx1 with
        | false => rfl
        | true =>
          simp only [cond_true]
          cases Nat.beq nx1 (Nat.succ nx) with
          | false => rfl
          | true =>
            simp only [cond_true]
            cases h1.get nx with
            | none => rfl
            | some b =>
              simp only [onO_some, noneK_eq]
              cases (Ks.all fun K => (K.2.get nx).isNone) with
              | false => rfl
              | true => simp only [cond_true, T.seq_eq]
  | 1 =>
    simp only
    have hr := rst_ops sl (opO ops i)
    revert hr
    generalize opO ops i = op
    intro hr
    cases op with
    | load t x =>
      simp only [Hd.bind_eq, Hd.un_mk, cX_eq]
      have hx := hr x (by simp [Op.operands])
      rw [hx]
      cases evX sl x with
      | none => rfl
      | some a =>
        simp only [onO_some, ldK_eq, ldAny]
        cases ldAll P ops i t a Ks with
        | none =>
          simp only [onO_none]
          cases ldPend P ops i t a pend with
          | none => rfl
          | some v =>
            simp only [onO_some]
            rw [cPut_eq]
            cases putD N (opD ops i) v sl <;> rfl
        | some v =>
          simp only [onO_some]
          rw [cPut_eq]
          cases putD N (opD ops i) v sl <;> rfl
    | _ => rfl
  | n + 2 =>
    simp only [Hd.bind_eq, Hd.un_mk, cOper_eq hG]
    rw [evOper_congr (sl' := rst sl (opTmps (opO ops i))) (rst_ops sl _)]
    cases evOper P X call sl st nx (opO ops i) with
    | bad => rfl
    | ok v h1 nx1 =>
      simp only [R.on]
      rw [cPut_eq]
      cases putD N (opD ops i) v sl with
      | none => rfl
      | some sl1 =>
        simp only [onB_eq]
        cases Nat.ble nx nx1 <;> rfl
/-- One that is not done. -/
noncomputable def cSkip (N : Nat) (ops : Array Oper) (i : Nat) : Hd (T AV → T AO → Nat → List (Nat × T AO) → List Rec → StK → RS) :=
  (cPut N (opD ops i)).bind fun p => onB (Nat.beq (knd ops i) 2) (.mk fun sl st nx Ks _ k => p sl (.tup .nil) fun sl1 => k sl1 st nx ((i, st) :: Ks) []) (.mk fun sl st nx Ks pd k => p sl (.tup .nil) fun sl1 => k sl1 st nx Ks pd)
theorem cSkip_eq (ops : Array Oper) (i : Nat) (sl : T AV) (st : T AO) (nx : Nat) (Ks : List (Nat × T AO)) (pend : List Rec) (k : StK) :
    (cSkip N ops i).un sl st nx Ks pend k = match evSkip N ops i ⟨sl, st, nx, Ks, pend⟩ with | some (_, s) => k s.sl s.st s.nx s.Ks s.pend | none => .bad := by
  unfold cSkip evSkip
  simp only [Hd.bind_eq, onB_eq]
  cases Nat.beq (knd ops i) 2 with
  | true =>
    simp only [cond_true, Hd.un_mk]
    rw [cPut_eq]
    cases putD N (opD ops i) (.tup .nil) sl <;> rfl
  | false =>
    simp only [cond_false, Hd.un_mk]
    rw [cPut_eq]
    cases putD N (opD ops i) (.tup .nil) sl <;> rfl
noncomputable def cStep (P : Program) (X : Caller) (G : FuncId → Bool) (N : Nat) (ops : Array Oper) (i : Nat) : Hd (Caller → T AV → T AO → Nat → List (Nat × T AO) → List Rec → StK → RS) :=
  (cStep1 P X G N ops i).bind fun s => match (ops.getD i default).guard with
    | none => .mk s
    | some _ => (cSkip N ops i).bind fun z => (cW ops (ops.getD i default)).bind fun w => .mk fun call sl st nx Ks pd k => onO (w sl) .bad fun b => onB b (s call sl st nx Ks pd k) (z sl st nx Ks pd k)
include hG in
theorem cStep_eq (X call : Caller) (ops : Array Oper) (i : Nat) (sl : T AV) (st : T AO) (nx : Nat) (Ks : List (Nat × T AO)) (pend : List Rec) (k : StK) :
    (cStep P X G N ops i).un call sl st nx Ks pend k = match evStep P X call N ops i ⟨sl, st, nx, Ks, pend⟩ with | some (_, s) => k s.sl s.st s.nx s.Ks s.pend | none => .bad := by
  unfold cStep evStep
  simp only [Hd.bind_eq]
  cases hg : (ops.getD i default).guard with
  | none =>
    have hw : evWanted ops (ops.getD i default) sl = some true := by unfold evWanted; rw [hg]
    simp only [Hd.un_mk, hw]
    exact cStep1_eq hG X call ops i sl st nx Ks pend k
  | some jw =>
    simp only [Hd.un_mk, cW_eq]
    cases evWanted ops (ops.getD i default) sl with
    | none => rfl
    | some b =>
      cases b with
      | true => exact cStep1_eq hG X call ops i sl st nx Ks pend k
      | false => exact cSkip_eq ops i sl st nx Ks pend k
noncomputable def cPlan (P : Program) (X : Caller) (G : FuncId → Bool) (N : Nat) (ops : Array Oper) : List Nat → Hd (Caller → StK)
  | [] => .mk fun _ sl st nx _ _ => .ok sl st nx
  | i :: l => (cStep P X G N ops i).bind fun s => (cPlan P X G N ops l).bind fun k => .mk fun call sl st nx Ks pd => s call sl st nx Ks pd (k call)
include hG in
theorem cPlan_eq (X call : Caller) (ops : Array Oper) : ∀ (l : List Nat) (sl : T AV) (st : T AO) (nx : Nat) (Ks : List (Nat × T AO)) (pend : List Rec),
    (cPlan P X G N ops l).un call sl st nx Ks pend = match evPlan P X call N ops l ⟨sl, st, nx, Ks, pend⟩ with | some (_, s) => .ok s.sl s.st s.nx | none => .bad
  | [], _, _, _, _, _ => rfl
  | i :: l, sl, st, nx, Ks, pend => by
    simp only [cPlan, evPlan, Hd.bind_eq, Hd.un_mk]
    rw [cStep_eq hG X call ops i sl st nx Ks pend]
    cases evStep P X call N ops i ⟨sl, st, nx, Ks, pend⟩ with
    | none => rfl
    | some rs =>
      obtain ⟨r, s⟩ := rs
      simp only
      rw [cPlan_eq X call ops l s.sl s.st s.nx s.Ks s.pend]
      cases evPlan P X call N ops l s <;> rfl
noncomputable def cDraw (P : Program) (X : Caller) (G : FuncId → Bool) (N : Nat) (ops : Array Oper) : Hd (Caller → T AV → T AO → Nat → RS) :=
  onB (chkF N ops) ((cPlan P X G N ops (planF ops)).bind fun k => .mk fun call sl h nx => k call sl h nx [(ops.size, h)] []) (.mk fun _ _ _ _ => .bad)
include hG in
theorem cDraw_eq (X call : Caller) (ops : Array Oper) (sl : T AV) (h : T AO) (nx : Nat) : (cDraw P X G N ops).un call sl h nx = evDrawG (chkF N) planF P X call N ops sl h nx := by
  unfold cDraw evDrawG
  rw [onB_eq]
  cases chkF N ops with
  | false => rfl
  | true =>
    simp only [cond_true, Hd.bind_eq, Hd.un_mk]
    rw [cPlan_eq hG X call ops (planF ops) sl h nx _ []]
    cases evPlan P X call N ops (planF ops) ⟨sl, h, nx, [(ops.size, h)], []⟩ <;> rfl
end Go.Proofs.YtmhnnfponloihaaDoor
