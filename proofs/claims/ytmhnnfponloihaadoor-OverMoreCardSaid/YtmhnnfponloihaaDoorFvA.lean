/- A closed run, run quickly: ways of taking things apart, operands, numbers. No Go program in this text. -/
import Derived.Test.YtmhnnfponloihaaDoorEvV
set_option linter.unusedSimpArgs false
set_option linter.unusedVariables false
namespace Go.Proofs.YtmhnnfponloihaaDoor
open Go.RowKit
variable {P : Program} {N : Nat}

noncomputable def AV.onB {β : Type} (v : AV) (d : β) (k : Bool → β) : β := AV.rec (motive_1 := fun _ => β) (motive_2 := fun _ => PUnit.{1}) (fun a0 => k a0) (fun _ _ => d) (fun _ _ => d) (fun _ _ => d) (d) (fun _ _ _ _ => d) (fun _ _ _ => d) (fun _ _ => d) (d) (fun _ _ _ => d) (d) (fun _ => d) (fun _ _ _ => d) (fun _ _ _ => d) (d) (fun _ => d) (d) (fun _ _ => d) (fun _ _ => d) ⟨⟩ (fun _ _ _ _ => ⟨⟩) v
noncomputable def AV.onI {β : Type} (v : AV) (d : β) (k : IntKind → Int → β) : β := AV.rec (motive_1 := fun _ => β) (motive_2 := fun _ => PUnit.{1}) (fun _ => d) (fun a0 a1 => k a0 a1) (fun _ _ => d) (fun _ _ => d) (d) (fun _ _ _ _ => d) (fun _ _ _ => d) (fun _ _ => d) (d) (fun _ _ _ => d) (d) (fun _ => d) (fun _ _ _ => d) (fun _ _ _ => d) (d) (fun _ => d) (d) (fun _ _ => d) (fun _ _ => d) ⟨⟩ (fun _ _ _ _ => ⟨⟩) v
noncomputable def AV.onS {β : Type} (v : AV) (d : β) (k : Nat → Nat → β) : β := AV.rec (motive_1 := fun _ => β) (motive_2 := fun _ => PUnit.{1}) (fun _ => d) (fun _ _ => d) (fun a0 a1 => k a0 a1) (fun _ _ => d) (d) (fun _ _ _ _ => d) (fun _ _ _ => d) (fun _ _ => d) (d) (fun _ _ _ => d) (d) (fun _ => d) (fun _ _ _ => d) (fun _ _ _ => d) (d) (fun _ => d) (d) (fun _ _ => d) (fun _ _ => d) ⟨⟩ (fun _ _ _ _ => ⟨⟩) v
noncomputable def AV.onIS {β : Type} (v : AV) (d : β) (k : IntKind → Int → β) (q : Nat → Nat → β) : β := AV.rec (motive_1 := fun _ => β) (motive_2 := fun _ => PUnit.{1}) (fun _ => d) (fun a0 a1 => k a0 a1) (fun a0 a1 => q a0 a1) (fun _ _ => d) (d) (fun _ _ _ _ => d) (fun _ _ _ => d) (fun _ _ => d) (d) (fun _ _ _ => d) (d) (fun _ => d) (fun _ _ _ => d) (fun _ _ _ => d) (d) (fun _ => d) (d) (fun _ _ => d) (fun _ _ => d) ⟨⟩ (fun _ _ _ _ => ⟨⟩) v
noncomputable def AV.onP {β : Type} (v : AV) (d : β) (k : Nat → Nat → β) : β := AV.rec (motive_1 := fun _ => β) (motive_2 := fun _ => PUnit.{1}) (fun _ => d) (fun _ _ => d) (fun _ _ => d) (fun a0 a1 => k a0 a1) (d) (fun _ _ _ _ => d) (fun _ _ _ => d) (fun _ _ => d) (d) (fun _ _ _ => d) (d) (fun _ => d) (fun _ _ _ => d) (fun _ _ _ => d) (d) (fun _ => d) (d) (fun _ _ => d) (fun _ _ => d) ⟨⟩ (fun _ _ _ _ => ⟨⟩) v
noncomputable def AV.onTup {β : Type} (v : AV) (d : β) (k : AVs → β) : β := AV.rec (motive_1 := fun _ => β) (motive_2 := fun _ => PUnit.{1}) (fun _ => d) (fun _ _ => d) (fun _ _ => d) (fun _ _ => d) (d) (fun _ _ _ _ => d) (fun _ _ _ => d) (fun _ _ => d) (d) (fun _ _ _ => d) (d) (fun _ => d) (fun _ _ _ => d) (fun _ _ _ => d) (d) (fun _ => d) (d) (fun _ _ => d) (fun a0 _ => k a0) ⟨⟩ (fun _ _ _ _ => ⟨⟩) v
noncomputable def AV.onAgg {β : Type} (v : AV) (d : β) (k : AVs → β) : β := AV.rec (motive_1 := fun _ => β) (motive_2 := fun _ => PUnit.{1}) (fun _ => d) (fun _ _ => d) (fun _ _ => d) (fun _ _ => d) (d) (fun _ _ _ _ => d) (fun _ _ _ => d) (fun _ _ => d) (d) (fun _ _ _ => d) (d) (fun _ => d) (fun _ _ _ => d) (fun _ _ _ => d) (d) (fun _ => d) (d) (fun a0 _ => k a0) (fun _ _ => d) ⟨⟩ (fun _ _ _ _ => ⟨⟩) v
noncomputable def AV.onRow {β : Type} (v : AV) (d : β) (k : Nat → Nat → Nat → Nat → β) (q : Nat → Nat → Nat → β) (r : Nat → Nat → β) : β := AV.rec (motive_1 := fun _ => β) (motive_2 := fun _ => PUnit.{1}) (fun _ => d) (fun _ _ => d) (fun _ _ => d) (fun _ _ => d) (d) (fun a0 a1 a2 a3 => k a0 a1 a2 a3) (fun a0 a1 a2 => q a0 a1 a2) (fun a0 a1 => r a0 a1) (d) (fun _ _ _ => d) (d) (fun _ => d) (fun _ _ _ => d) (fun _ _ _ => d) (d) (fun _ => d) (d) (fun _ _ => d) (fun _ _ => d) ⟨⟩ (fun _ _ _ _ => ⟨⟩) v
noncomputable def AV.onLen {β : Type} (v : AV) (d : β) (k : Nat → Nat → β) (q : Nat → Nat → Nat → Nat → β) (r : Nat → Nat → Nat → β) (u : Nat → Nat → β) (x : β) : β := AV.rec (motive_1 := fun _ => β) (motive_2 := fun _ => PUnit.{1}) (fun _ => d) (fun _ _ => d) (fun a0 a1 => k a0 a1) (fun _ _ => d) (d) (fun a0 a1 a2 a3 => q a0 a1 a2 a3) (fun a0 a1 a2 => r a0 a1 a2) (fun a0 a1 => u a0 a1) (x) (fun _ _ _ => d) (d) (fun _ => d) (fun _ _ _ => d) (fun _ _ _ => d) (d) (fun _ => d) (d) (fun _ _ => d) (fun _ _ => d) ⟨⟩ (fun _ _ _ _ => ⟨⟩) v
noncomputable def AV.onFn {β : Type} (v : AV) (d : β) (k : FuncId → AVs → β) (q : Nat → β) : β := AV.rec (motive_1 := fun _ => β) (motive_2 := fun _ => PUnit.{1}) (fun _ => d) (fun _ _ => d) (fun _ _ => d) (fun _ _ => d) (d) (fun _ _ _ _ => d) (fun _ _ _ => d) (fun _ _ => d) (d) (fun a0 a1 _ => k a0 a1) (d) (fun a0 => q a0) (fun _ _ _ => d) (fun _ _ _ => d) (d) (fun _ => d) (d) (fun _ _ => d) (fun _ _ => d) ⟨⟩ (fun _ _ _ _ => ⟨⟩) v
noncomputable def AV.onIfc {β : Type} (v : AV) (d : β) (k : TypeId → AV → β) : β := AV.rec (motive_1 := fun _ => β) (motive_2 := fun _ => PUnit.{1}) (fun _ => d) (fun _ _ => d) (fun _ _ => d) (fun _ _ => d) (d) (fun _ _ _ _ => d) (fun _ _ _ => d) (fun _ _ => d) (d) (fun _ _ _ => d) (d) (fun _ => d) (fun _ _ _ => d) (fun a0 a1 _ => k a0 a1) (d) (fun _ => d) (d) (fun _ _ => d) (fun _ _ => d) ⟨⟩ (fun _ _ _ _ => ⟨⟩) v
noncomputable def AV.onBT {β : Type} (v : AV) (d : β) (k : Bool → β) (q : AVs → β) : β := AV.rec (motive_1 := fun _ => β) (motive_2 := fun _ => PUnit.{1}) (fun a0 => k a0) (fun _ _ => d) (fun _ _ => d) (fun _ _ => d) (d) (fun _ _ _ _ => d) (fun _ _ _ => d) (fun _ _ => d) (d) (fun _ _ _ => d) (d) (fun _ => d) (fun _ _ _ => d) (fun _ _ _ => d) (d) (fun _ => d) (d) (fun _ _ => d) (fun a0 _ => q a0) ⟨⟩ (fun _ _ _ _ => ⟨⟩) v
noncomputable def AV.isPt {β : Type} (v : AV) (d : β) (k : β) : β := AV.rec (motive_1 := fun _ => β) (motive_2 := fun _ => PUnit.{1}) (fun _ => d) (fun _ _ => d) (fun _ _ => d) (fun _ _ => k) (d) (fun _ _ _ _ => d) (fun _ _ _ => d) (fun _ _ => d) (d) (fun _ _ _ => k) (d) (fun _ => d) (fun _ _ _ => d) (fun _ _ _ => k) (d) (fun _ => d) (d) (fun _ _ => d) (fun _ _ => d) ⟨⟩ (fun _ _ _ _ => ⟨⟩) v
noncomputable def AO.onIter {β : Type} (o : AO) (d : β) (k : Nat → Nat → Nat → β) : β := AO.rec (motive := fun _ => β) (fun _ _ _ => d) (fun _ _ _ _ => d) (fun a b c => k a b c) (fun _ => d) (fun _ _ _ _ _ _ => d) (fun _ => d) o
noncomputable def onO {α β : Type} (o : Option α) (d : β) (k : α → β) : β := Option.rec (motive := fun _ => β) d k o
noncomputable def onB {β : Type} (b : Bool) (t f : β) : β := Bool.rec (motive := fun _ => β) f t b
noncomputable def R.on {β : Type} (r : R) (d : β) (k : AV → T AO → Nat → β) : β := R.rec (motive := fun _ => β) k d r
noncomputable def RS.on {β : Type} (r : RS) (d : β) (k : T AV → T AO → Nat → β) : β := RS.rec (motive := fun _ => β) k d r
noncomputable def RC.on {β : Type} (r : RC) (d : β) (k : XT → T AV → T AO → Nat → β) : β := RC.rec (motive := fun _ => β) k d r
noncomputable def XT.on {β : Type} (x : XT) (n r : β) (e : Nat → β) : β := XT.rec (motive := fun _ => β) n r e x
noncomputable def AO.onRd {β : Type} (o : AO) (d : β) (k : T AV → β) : β := AO.rec (motive := fun _ => β) (fun t _ _ => k t) (fun t _ _ _ => k t) (fun _ _ _ => d) (fun t => k t) (fun _ _ _ _ _ _ => d) (fun _ => d) o
noncomputable def AO.onTr {β : Type} (o : AO) (d : β) (k : T AV → (T AV → AO) → β) : β := AO.rec (motive := fun _ => β) (fun t n e => k t fun t => .cells t n e) (fun t n z e => k t fun t => .grow t n z e) (fun _ _ _ => d) (fun _ => d) (fun _ _ _ _ _ _ => d) (fun _ => d) o
theorem onO_some {α β : Type} (a : α) (d : β) (k : α → β) : onO (some a) d k = k a := rfl
theorem onO_none {α β : Type} (d : β) (k : α → β) : onO none d k = d := rfl
/-- An operand. -/
noncomputable def cX (x : Operand) : Hd (T AV → Option AV) :=
  match x with
  | .tmp t => T.getB t
  | .const v => match ofV v with | some a => .mk fun _ => some a | none => .mk fun _ => none
  | .func f => .mk fun _ => some (.fn f .nil)
  | .global _ => .mk fun _ => none
theorem cX_eq (x : Operand) (sl : T AV) : (cX x).un sl = evX sl x := by
  cases x with
  | tmp t => simp only [cX, evX, T.get_def, Hd.bind_eq]
  | const v => simp only [cX, evX]; cases ofV v <;> rfl
  | func f => rfl
  | global g => rfl
noncomputable def cXs : List Operand → Hd (T AV → Option AVs)
  | [] => .mk fun _ => some .nil
  | x :: l => (cX x).bind fun g => (cXs l).bind fun k => .mk fun sl => onO (g sl) none fun a => onO (k sl) none fun m => some (.cons a m)
theorem cXs_eq : ∀ (l : List Operand) (sl : T AV), (cXs l).un sl = evXs sl l
  | [], _ => rfl
  | x :: l, sl => by
    simp only [cXs, evXs, Hd.bind_eq, Hd.un_mk, cX_eq, cXs_eq l]
    cases evX sl x with
    | none => rfl
    | some a => cases evXs sl l <;> rfl
noncomputable def cParts : List (Nat × Operand) → Hd (T AV → Option (List (Nat × AV)))
  | [] => .mk fun _ => some []
  | (i, x) :: l => (cX x).bind fun g => (cParts l).bind fun k => .mk fun sl => onO (g sl) none fun a => onO (k sl) none fun m => some ((i, a) :: m)
theorem cParts_eq : ∀ (l : List (Nat × Operand)) (sl : T AV), (cParts l).un sl = evParts sl l
  | [], _ => rfl
  | (i, x) :: l, sl => by
    simp only [cParts, evParts, Hd.bind_eq, Hd.un_mk, cX_eq, cParts_eq l]
    cases evX sl x with
    | none => rfl
    | some a => cases evParts sl l <;> rfl
/-- A bound of a slice. -/
noncomputable def cB : Option Operand → Hd (T AV → Option (Option Nat))
  | none => .mk fun _ => some none
  | some x => (cX x).bind fun g => .mk fun sl => onO (g sl) none fun v => v.onI none fun _ n => Int.rec (motive := fun _ => Option (Option Nat)) (fun k => some (some k)) (fun _ => none) n
theorem cB_eq (x : Option Operand) (sl : T AV) : (cB x).un sl = evB sl x := by
  cases x with
  | none => rfl
  | some x =>
    simp only [cB, evB, Hd.bind_eq, Hd.un_mk, cX_eq]
    cases evX sl x with
    | none => rfl
    | some v =>
      cases v <;> try rfl
      rename_i k n
      cases n <;> rfl
/- Numbers. -/
noncomputable def ltF (x y : Int) : Bool := Int.rec (motive := fun _ => Bool) (fun a => Int.rec (motive := fun _ => Bool) (fun b => Nat.ble (Nat.succ a) b) (fun _ => false) y) (fun a => Int.rec (motive := fun _ => Bool) (fun _ => true) (fun b => Nat.ble (Nat.succ b) a) y) x
theorem ltF_eq (x y : Int) : ltF x y = ltI x y := by cases x <;> cases y <;> rfl
noncomputable def eqF (x y : Int) : Bool := Int.rec (motive := fun _ => Bool) (fun a => Int.rec (motive := fun _ => Bool) (fun b => Nat.beq a b) (fun _ => false) y) (fun a => Int.rec (motive := fun _ => Bool) (fun _ => false) (fun b => Nat.beq a b) y) x
theorem eqF_eq (x y : Int) : eqF x y = eqI x y := by cases x <;> cases y <;> rfl
noncomputable def is64 (k : IntKind) : Bool := eqK k .i64
theorem is64_is {k : IntKind} (h : is64 k = true) : k = .i64 := eqK_eq h
noncomputable def addF (k : IntKind) (x y : Int) : Int :=
  Int.rec (motive := fun _ => Int) (fun a => Int.rec (motive := fun _ => Int) (fun b => onB (is64 k) (onB (Nat.ble (Nat.add a b) 9223372036854775807) (.ofNat (Nat.add a b)) (wrapF k (Int.add (.ofNat a) (.ofNat b)))) (wrapF k (Int.add (.ofNat a) (.ofNat b)))) (fun b => wrapF k (Int.add (.ofNat a) (.negSucc b))) y) (fun a => wrapF k (Int.add (.negSucc a) y)) x
theorem addF_eq (k : IntKind) (x y : Int) : addF k x y = wrapF k (Int.add x y) := by
  cases x with
  | negSucc a => rfl
  | ofNat a =>
    cases y with
    | negSucc b => rfl
    | ofNat b =>
      show onB (is64 k) _ _ = _
      cases e : is64 k with
      | false => rfl
      | true =>
        have := is64_is e; subst this
        show onB (Nat.ble (Nat.add a b) 9223372036854775807) _ _ = _
        cases e2 : Nat.ble (Nat.add a b) 9223372036854775807 with
        | false => rfl
        | true => show _ = (bif Nat.ble (a + b) 9223372036854775807 then _ else _); rw [show Nat.ble (a + b) 9223372036854775807 = true from e2]; rfl
noncomputable def subF (k : IntKind) (x y : Int) : Int :=
  Int.rec (motive := fun _ => Int) (fun a => Int.rec (motive := fun _ => Int) (fun b => onB (is64 k) (onB (Nat.ble b a) (onB (Nat.ble a 9223372036854775807) (.ofNat (Nat.sub a b)) (wrapF k (Int.sub (.ofNat a) (.ofNat b)))) (wrapF k (Int.sub (.ofNat a) (.ofNat b)))) (wrapF k (Int.sub (.ofNat a) (.ofNat b)))) (fun b => wrapF k (Int.sub (.ofNat a) (.negSucc b))) y) (fun a => wrapF k (Int.sub (.negSucc a) y)) x
theorem subF_eq (k : IntKind) (x y : Int) : subF k x y = wrapF k (Int.sub x y) := by
  cases x with
  | negSucc a => rfl
  | ofNat a =>
    cases y with
    | negSucc b => rfl
    | ofNat b =>
      show onB (is64 k) _ _ = _
      cases e : is64 k with
      | false => rfl
      | true =>
        have := is64_is e; subst this
        show onB (Nat.ble b a) _ _ = _
        cases e1 : Nat.ble b a with
        | false => rfl
        | true =>
          show onB (Nat.ble a 9223372036854775807) _ _ = _
          cases e2 : Nat.ble a 9223372036854775807 with
          | false => rfl
          | true =>
            rw [Nat.ble_eq] at e1 e2
            have h1 : Int.sub (.ofNat a) (.ofNat b) = .ofNat (a - b) := by
              show (a : Int) - (b : Int) = ((a - b : Nat) : Int)
              omega
            show Int.ofNat (a - b) = _
            rw [h1]
            show _ = (bif Nat.ble (a - b) 9223372036854775807 then _ else _)
            rw [show Nat.ble (a - b) 9223372036854775807 = true by rw [Nat.ble_eq]; omega]; rfl
end Go.Proofs.YtmhnnfponloihaaDoor
