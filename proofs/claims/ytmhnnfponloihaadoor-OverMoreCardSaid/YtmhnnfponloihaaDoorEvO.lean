/- A region in its order, code, calls of a closed run. No Go program in this text. -/
import Derived.Test.YtmhnnfponloihaaDoorEvN
import Derived.TacticsIn
set_option linter.unusedSimpArgs false
set_option linter.unusedVariables false
namespace Go.Proofs.YtmhnnfponloihaaDoor
open Go.RowKit
variable {ρ : Map} {P : Program} {N : Nat} {sl : T AV} {a : Act} {h : T AO} {w : World} {nx : Nat}

/-- A function that is entered. -/
def fnOk (P : Program) (f : FuncId) : Bool :=
  match P.funcs[f]? with
  | some fn => fn.body.isSome && !(fn.name == "runtime.NumGoroutine")
  | none => false
/-- What is called: a function, or yield of a range over a function. -/
inductive Tgt where
  | fn (f : FuncId)
  | yl (id : Nat)
abbrev Caller := Tgt → AVs → T AO → Nat → R
/-- What lies outside: functions without a body. -/
def ExtOk (P : Program) (X : Caller) : Prop :=
  ∀ f l h nx v h' nx', X (.fn f) l h nx = .ok v h' nx' → nx ≤ nx' ∧ ∀ ρ w m, Rel ρ h.get w → VsRel ρ l m → Fr ρ nx nx' → Does P ρ h h' nx nx' v (callFunc f m.toArray) w
noncomputable def evOper (P : Program) (X call : Caller) (sl : T AV) (h : T AO) (nx : Nat) (op : Op) : R :=
  match op with
  | .call c => match c.callee with
    | .value f => match evX sl f, evXs sl c.args.toList with
      | some (.fn g caps), some l => bif fnOk P g then call (.fn g) (l.app caps) h nx else X (.fn g) (l.app caps) h nx
      | some (.yl id), some l => call (.yl id) l h nx
      | _, _ => .bad
    | _ => evM P sl h nx op
  | op => evM P sl h nx op
inductive RS where
  | ok (sl : T AV) (h : T AO) (nx : Nat)
  | bad
/-- Is an operation to be done? -/
noncomputable def evWanted (ops : Array Oper) (o : Oper) (sl : T AV) : Option Bool :=
  match o.guard with
  | none => some true
  | some (j, want) => match (ops[j]?).bind (·.dst) with
    | some t => match sl.get t with | some (.b x) => some (x == want) | some (.tup _) => some false | _ => none
    | none => none
noncomputable def putD (N : Nat) (dst : Option Nat) (v : AV) (sl : T AV) : Option (T AV) :=
  match dst with
  | none => some sl
  | some d => bif Nat.ble (Nat.succ d) N then (sl.put d v).seq fun sl => some sl else none
noncomputable def evOps (P : Program) (X call : Caller) (N : Nat) (ops : Array Oper) : List Oper → T AV → T AO → Nat → RS
  | [], sl, h, nx => .ok sl h nx
  | o :: rest, sl, h, nx => match evWanted ops o sl with
    | some true => match evOper P X call sl h nx o.op with
      | .ok v h1 nx1 => bif Nat.ble nx nx1 then match putD N o.dst v sl with
        | some sl => evOps P X call N ops rest sl h1 nx1
        | none => .bad else .bad
      | .bad => .bad
    | some false => match putD N o.dst (.tup .nil) sl with
      | some sl => evOps P X call N ops rest sl h nx
      | none => .bad
    | none => .bad
structure CallOk (P : Program) (call : Caller) : Prop where
  fn : ∀ f l h nx v h' nx', call (.fn f) l h nx = .ok v h' nx' → nx ≤ nx' ∧ ∀ (F : Fence) (n : Nat) ρ w m, (∀ f, F.fn f) → F.depth = none → F.round = none → Rel ρ h.get w → VsRel ρ l m → Fr ρ nx nx' →
    CallsIn F n P f m.toArray w fun e w' => ∃ ρ' u, Stp ρ ρ' h.get h'.get w w' nx nx' ∧ e = .returned u ∧ VRel ρ' v u
  yl : ∀ id l h nx v h' nx', call (.yl id) l h nx = .ok v h' nx' → nx ≤ nx' ∧ ∀ (F : Fence) (n : Nat) ρ w m, (∀ f, F.fn f) → F.depth = none → Rel ρ h.get w → VsRel ρ l m → Fr ρ nx nx' → ∀ b C, ρ id = some (b, C) →
    ∃ f tmps asg bd, (Instr.yield b m.toArray).run P w = .ok (.round b f tmps asg bd) w ∧ RoundIn F n P b f tmps asg bd w fun e w' => ∃ ρ' u, Stp ρ ρ' h.get h'.get w w' nx nx' ∧ e = .returned u ∧ VRel ρ' v u
theorem putD_rel (hS : SRel N ρ sl a) {dst : Option Nat} {v : AV} {u : Value} (hv : VRel ρ v u) {sl' : T AV} (e : putD N dst v sl = some sl') : SRel N ρ sl' (a.put dst u) := by
  unfold putD at e
  split at e
  · cases e; exact hS
  · obtain ⟨h1, e⟩ := bif_some' e
    rw [Nat.ble_eq] at h1
    rw [T.seq_eq] at e; cases e
    exact hS.put h1 hv
theorem evWanted_is (hS : SRel N ρ sl a) {ops : Array Oper} {o : Oper} {b : Bool} (e : evWanted ops o sl = some b) : Region.wanted o (yielded ops a.tmps) = b := by
  unfold evWanted at e
  split at e
  · rename_i hg; cases e; simp [Region.wanted, hg]
  · rename_i j want hg
    split at e
    · rename_i t ht
      split at e
      · rename_i x hx
        cases e
        obtain ⟨h1, h2⟩ := hS.get t _ hx
        have h3 : a.tmps[t]? = some (.bool x) := by
          have : t < a.tmps.size := by rw [hS.size]; exact h1
          have h4 : a.tmps.getD t undef = .bool x := h2
          rw [Array.getElem?_eq_getElem this]
          simpa [Array.getD, this] using h4
        simp only [Region.wanted, hg, yielded, ht, Option.bind_some, h3]
        cases x <;> cases want <;> rfl
      · rename_i x hx
        cases e
        obtain ⟨h1, h2⟩ := hS.get t _ hx
        obtain ⟨c, h4, _⟩ := h2
        have h3 : a.tmps[t]? = some (.tuple c) := by
          have : t < a.tmps.size := by rw [hS.size]; exact h1
          rw [Array.getElem?_eq_getElem this]
          simpa [Array.getD, this] using h4
        simp only [Region.wanted, hg, yielded, ht, Option.bind_some, h3]
        rfl
      · cases e
    · cases e
theorem put_defers (a : Act) (d : Option Tmp) (v : Value) : (a.put d v).defers = a.defers := by cases d <;> rfl
theorem evOper_defer {X call : Caller} {op : Op} {v : AV} {h' : T AO} {nx' : Nat} (e : evOper P X call sl h nx op = .ok v h' nx') : ∀ c, op ≠ .defer c := by
  rintro c rfl
  simp [evOper, evM, evP, ofO] at e
theorem semAt_ok {r : Option Nat} {o : Oper} (h : ∀ c, o.op ≠ .defer c) (ev : Operand → Value) : Oper.semAt r ev o = execOp ev o := by
  cases r with
  | none => exact Oper.semAt_none ev o
  | some l => exact Oper.semAt_some l ev o h
theorem evOps_le {X call : Caller} {ops : Array Oper} : ∀ {l : List Oper} {sl sl' : T AV} {h h' : T AO} {nx nx' : Nat}, evOps P X call N ops l sl h nx = .ok sl' h' nx' → nx ≤ nx'
  | [], sl, sl', h, h', nx, nx', e => by simp only [evOps] at e; cases e; exact Nat.le_refl _
  | o :: rest, sl, sl', h, h', nx, nx', e => by
    simp only [evOps] at e
    split at e
    · split at e
      · rename_i v h1 nx1 _
        cases hb : Nat.ble nx nx1 with
        | false => simp [hb] at e
        | true =>
          rw [hb, cond_true] at e
          rw [Nat.ble_eq] at hb
          split at e
          · exact Nat.le_trans hb (evOps_le e)
          · cases e
      · cases e
    · split at e
      · exact evOps_le e
      · cases e
    · cases e
section
variable {F : Fence} {n : Nat} (hF : ∀ f, F.fn f) (hD : F.depth = none)
include hF hD
/-- One operation, whatever comes behind it. -/
theorem oper_run {X call : Caller} (hX : ExtOk P X) (hC : CallOk P call) {Q : Exit → Act → World → Prop} {o : Oper} {v : AV} {h1 : T AO} {nx1 : Nat} {next : Act → World → Prop}
    (ho : evOper P X call sl h nx o.op = .ok v h1 nx1) (hR : Rel ρ h.get w) (hS : SRel N ρ sl a) (hf1 : Fr ρ nx nx1)
    (go : ∀ (ρ1 : Map) (u : Value) (w1 : World), Stp ρ ρ1 h.get h1.get w w1 nx nx1 → VRel ρ1 v u → next (a.put o.dst u) w1) : o.wpIn F n P a w next Q := by
  refine ⟨fun f _ => hF f, ?_⟩
  rw [semAt_ok (evOper_defer ho)]
  have viaM : evM P sl h nx o.op = .ok v h1 nx1 → o.uponIn F n P a next Q ((execOp a.eval o).run P w) := by
    intro hm
    obtain ⟨ρ1, w1, hs, hr⟩ := evM_run hR hS hm hf1
    rcases hr with ⟨u, hrun, hv⟩ | ⟨hrun, rfl⟩
    · rw [hrun]; exact go ρ1 u w1 hs hv
    · rw [hrun]; exact go ρ1 undef w1 hs ⟨#[], rfl, rfl⟩
  unfold evOper at ho
  split at ho
  · rename_i c hop
    split at ho
    · rename_i f hcal
      split at ho
      · rename_i g caps l hg hl
        obtain ⟨cv, hgv, hcaps⟩ := evX_rel hS hg
        have hargs := (evXs_rel hS hl).app hcaps
        have hexec : (execOp a.eval o).run P w = (callFunc g ((c.args.toList.map a.eval) ++ cv.toList).toArray).run P w := by
          have : ((c.args.toList.map a.eval) ++ cv.toList).toArray = #[] ++ c.args.map a.eval ++ cv := by apply Array.ext'; simp
          rw [this]
          simp only [execOp, hop, resolve, hcal, hgv, Deferred.ofValue, Sem.run_bind, Sem.run_pure, Result.andThen_ok, invoke]
        cases hok : fnOk P g with
        | true =>
          rw [hok, cond_true] at ho
          obtain ⟨_, hcall⟩ := hC.fn _ _ _ _ _ _ _ ho
          have hrun : (execOp a.eval o).run P w = .ok (.enter g ((c.args.toList.map a.eval) ++ cv.toList).toArray) w := by
            rw [hexec]
            unfold fnOk at hok
            cases hfn : P.funcs[g]? with
            | none => simp [hfn] at hok
            | some fn =>
              simp only [hfn, Bool.and_eq_true, Bool.not_eq_true'] at hok
              have hb1 : fn.body.isNone = false := by cases hbb : fn.body <;> simp [hbb] at hok ⊢
              simp only [callFunc, Sem.run_bind, Sem.run_pure, Result.andThen_ok, run_program, hfn, hok.2, Bool.false_eq_true, if_false, hb1]
          rw [hrun]
          refine ⟨fun hd => by simp [hD] at hd, ?_⟩
          have hcall' := hcall F.plain (n - 1) ρ w _ hF hD rfl hR hargs hf1
          refine CallsIn.mono (show CallsIn F (n - 1) P g _ w _ from hcall') ?_
          rintro e' w' ⟨ρ1, u, hs, rfl, hv⟩
          exact go ρ1 u w' hs hv
        | false =>
          rw [hok, cond_false] at ho
          obtain ⟨_, hx⟩ := hX _ _ _ _ _ _ _ ho
          obtain ⟨ρ1, w1, hs, hr⟩ := hx ρ w _ hR hargs hf1
          rw [hexec]
          rcases hr with ⟨u, hrun, hv⟩ | ⟨hrun, rfl⟩
          · rw [hrun]; exact go ρ1 u w1 hs hv
          · rw [hrun]; exact go ρ1 undef w1 hs ⟨#[], rfl, rfl⟩
      · rename_i id l hg hl
        obtain ⟨b, C, hb, hgv⟩ := evX_rel hS hg
        obtain ⟨_, hy⟩ := hC.yl _ _ _ _ _ _ _ ho
        obtain ⟨f', tmps, asg, bd, hrun, hround⟩ := hy F (n - 1) ρ w _ hF hD hR (evXs_rel hS hl) hf1 b C hb
        have hexec : (execOp a.eval o).run P w = (Instr.yield b (c.args.toList.map a.eval).toArray).run P w := by
          have : (c.args.toList.map a.eval).toArray = #[] ++ c.args.map a.eval := by apply Array.ext'; simp
          rw [this]
          simp only [execOp, hop, resolve, hcal, hgv, Deferred.ofValue, Sem.run_bind, Sem.run_pure, Result.andThen_ok, invoke]
        rw [hexec, hrun]
        refine ⟨fun hd => by simp [hD] at hd, ?_⟩
        refine RoundIn.mono hround ?_
        rintro e' w' ⟨ρ1, u, hs, rfl, hv⟩
        exact go ρ1 u w' hs hv
      · cases ho
    · exact viaM ho
  · exact viaM ho
theorem evOps_run {X call : Caller} (hX : ExtOk P X) (hC : CallOk P call) {ops : Array Oper} {Q : Exit → Act → World → Prop} : ∀ {l : List Oper} {sl sl' : T AV} {h h' : T AO} {nx nx' : Nat} {ρ : Map} {a : Act} {w : World},
    evOps P X call N ops l sl h nx = .ok sl' h' nx' → Rel ρ h.get w → SRel N ρ sl a → Fr ρ nx nx' →
    (∀ ρ' a' w', Stp ρ ρ' h.get h'.get w w' nx nx' → SRel N ρ' sl' a' → a'.defers = a.defers → Q .normal a' w') → wpListIn F n P ops Q l a w
  | [], sl, sl', h, h', nx, nx', ρ, a, w, e, hR, hS, hf, hQ => by
    simp only [evOps] at e; cases e
    exact hQ ρ a w (Stp.refl hR) hS rfl
  | o :: rest, sl, sl', h, h', nx, nx', ρ, a, w, e, hR, hS, hf, hQ => by
    simp only [evOps] at e
    have habout : ∀ f, o.about P w a.eval = some f → F.fn f := fun f _ => hF f
    split at e
    · rename_i hw
      have hw' := evWanted_is hS hw
      split at e
      · rename_i v h1 nx1 ho
        cases hb : Nat.ble nx nx1 with
        | false => simp [hb] at e
        | true =>
          rw [hb, cond_true] at e
          rw [Nat.ble_eq] at hb
          split at e
          · rename_i sl1 hsl
            have hle := evOps_le e
            simp only [wpListIn, hw', if_true]
            refine oper_run hF hD hX hC ho hR hS (hf.left hle) fun ρ1 u w1 hs hv => ?_
            exact evOps_run hX hC e hs.rel (putD_rel (hS.mono hs.le) hv hsl) (hs.fr hf) fun ρ' a' w' hs' hS' hd => hQ ρ' a' w' (hs.trans hs') hS' (hd.trans (put_defers _ _ _))
          · cases e
      · cases e
    · rename_i hw
      have hw' := evWanted_is hS hw
      split at e
      · rename_i sl1 hsl
        simp only [wpListIn, hw', Bool.false_eq_true, if_false]
        refine ⟨habout, evOps_run hX hC e hR (putD_rel hS (v := .tup .nil) (u := undef) ⟨#[], rfl, rfl⟩ hsl) hf fun ρ' a' w' hs' hS' hd => hQ ρ' a' w' hs' hS' (hd.trans (put_defers _ _ _))⟩
      · cases e
    · cases e
end
end Go.Proofs.YtmhnnfponloihaaDoor
