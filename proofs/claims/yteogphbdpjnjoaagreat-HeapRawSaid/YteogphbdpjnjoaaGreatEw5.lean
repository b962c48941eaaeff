/- A closed run, run by the kernel: part 5 of 6. No Go program in this text. -/
import Derived.Test.YteogphbdpjnjoaaGreatEw4
set_option linter.unusedSimpArgs false
set_option linter.unusedVariables false
namespace Go.Proofs.YteogphbdpjnjoaaGreat
open Go.RowKit
variable {P : Program} {N : Nat}

inductive VB where
  | no
  | b_ (a0 : Bool)
noncomputable def AV.toB (v : AV) : VB := AV.rec (motive_1 := fun _ => VB) (motive_2 := fun _ => PUnit.{1}) (fun a0 => .b_ a0) (fun _ _ => .no) (fun _ _ => .no) (fun _ _ => .no) (.no) (fun _ _ _ _ => .no) (fun _ _ _ => .no) (fun _ _ => .no) (.no) (fun _ _ _ => .no) (.no) (fun _ => .no) (fun _ _ _ => .no) (fun _ _ _ => .no) (.no) (fun _ => .no) (.no) (fun _ _ => .no) (fun _ _ => .no) (fun _ => .no) ⟨⟩ (fun _ _ _ _ => ⟨⟩) v
noncomputable def AV.onB {β : Type} (v : AV) (d : β) (k : Bool → β) : β := VB.rec (motive := fun _ => β) d k (AV.toB v)
inductive VI where
  | no
  | i_ (a0 : IntKind) (a1 : Int)
noncomputable def AV.toI (v : AV) : VI := AV.rec (motive_1 := fun _ => VI) (motive_2 := fun _ => PUnit.{1}) (fun _ => .no) (fun a0 a1 => .i_ a0 a1) (fun _ _ => .no) (fun _ _ => .no) (.no) (fun _ _ _ _ => .no) (fun _ _ _ => .no) (fun _ _ => .no) (.no) (fun _ _ _ => .no) (.no) (fun _ => .no) (fun _ _ _ => .no) (fun _ _ _ => .no) (.no) (fun _ => .no) (.no) (fun _ _ => .no) (fun _ _ => .no) (fun _ => .no) ⟨⟩ (fun _ _ _ _ => ⟨⟩) v
noncomputable def AV.onI {β : Type} (v : AV) (d : β) (k : IntKind → Int → β) : β := VI.rec (motive := fun _ => β) d k (AV.toI v)
inductive VS where
  | no
  | s_ (a0 : Nat) (a1 : Nat)
noncomputable def AV.toS (v : AV) : VS := AV.rec (motive_1 := fun _ => VS) (motive_2 := fun _ => PUnit.{1}) (fun _ => .no) (fun _ _ => .no) (fun a0 a1 => .s_ a0 a1) (fun _ _ => .no) (.no) (fun _ _ _ _ => .no) (fun _ _ _ => .no) (fun _ _ => .no) (.no) (fun _ _ _ => .no) (.no) (fun _ => .no) (fun _ _ _ => .no) (fun _ _ _ => .no) (.no) (fun _ => .no) (.no) (fun _ _ => .no) (fun _ _ => .no) (fun _ => .no) ⟨⟩ (fun _ _ _ _ => ⟨⟩) v
noncomputable def AV.onS {β : Type} (v : AV) (d : β) (k : Nat → Nat → β) : β := VS.rec (motive := fun _ => β) d k (AV.toS v)
inductive VIS where
  | no
  | i_ (a0 : IntKind) (a1 : Int)
  | s_ (a0 : Nat) (a1 : Nat)
noncomputable def AV.toIS (v : AV) : VIS := AV.rec (motive_1 := fun _ => VIS) (motive_2 := fun _ => PUnit.{1}) (fun _ => .no) (fun a0 a1 => .i_ a0 a1) (fun a0 a1 => .s_ a0 a1) (fun _ _ => .no) (.no) (fun _ _ _ _ => .no) (fun _ _ _ => .no) (fun _ _ => .no) (.no) (fun _ _ _ => .no) (.no) (fun _ => .no) (fun _ _ _ => .no) (fun _ _ _ => .no) (.no) (fun _ => .no) (.no) (fun _ _ => .no) (fun _ _ => .no) (fun _ => .no) ⟨⟩ (fun _ _ _ _ => ⟨⟩) v
noncomputable def AV.onIS {β : Type} (v : AV) (d : β) (k : IntKind → Int → β) (q : Nat → Nat → β) : β := VIS.rec (motive := fun _ => β) d k q (AV.toIS v)
inductive VP where
  | no
  | p_ (a0 : Nat) (a1 : Nat)
noncomputable def AV.toP (v : AV) : VP := AV.rec (motive_1 := fun _ => VP) (motive_2 := fun _ => PUnit.{1}) (fun _ => .no) (fun _ _ => .no) (fun _ _ => .no) (fun a0 a1 => .p_ a0 a1) (.no) (fun _ _ _ _ => .no) (fun _ _ _ => .no) (fun _ _ => .no) (.no) (fun _ _ _ => .no) (.no) (fun _ => .no) (fun _ _ _ => .no) (fun _ _ _ => .no) (.no) (fun _ => .no) (.no) (fun _ _ => .no) (fun _ _ => .no) (fun _ => .no) ⟨⟩ (fun _ _ _ _ => ⟨⟩) v
noncomputable def AV.onP {β : Type} (v : AV) (d : β) (k : Nat → Nat → β) : β := VP.rec (motive := fun _ => β) d k (AV.toP v)
inductive VTup where
  | no
  | tup_ (a0 : AVs)
noncomputable def AV.toTup (v : AV) : VTup := AV.rec (motive_1 := fun _ => VTup) (motive_2 := fun _ => PUnit.{1}) (fun _ => .no) (fun _ _ => .no) (fun _ _ => .no) (fun _ _ => .no) (.no) (fun _ _ _ _ => .no) (fun _ _ _ => .no) (fun _ _ => .no) (.no) (fun _ _ _ => .no) (.no) (fun _ => .no) (fun _ _ _ => .no) (fun _ _ _ => .no) (.no) (fun _ => .no) (.no) (fun _ _ => .no) (fun a0 _ => .tup_ a0) (fun _ => .no) ⟨⟩ (fun _ _ _ _ => ⟨⟩) v
noncomputable def AV.onTup {β : Type} (v : AV) (d : β) (k : AVs → β) : β := VTup.rec (motive := fun _ => β) d k (AV.toTup v)
inductive VAgg where
  | no
  | agg_ (a0 : AVs)
noncomputable def AV.toAgg (v : AV) : VAgg := AV.rec (motive_1 := fun _ => VAgg) (motive_2 := fun _ => PUnit.{1}) (fun _ => .no) (fun _ _ => .no) (fun _ _ => .no) (fun _ _ => .no) (.no) (fun _ _ _ _ => .no) (fun _ _ _ => .no) (fun _ _ => .no) (.no) (fun _ _ _ => .no) (.no) (fun _ => .no) (fun _ _ _ => .no) (fun _ _ _ => .no) (.no) (fun _ => .no) (.no) (fun a0 _ => .agg_ a0) (fun _ _ => .no) (fun _ => .no) ⟨⟩ (fun _ _ _ _ => ⟨⟩) v
noncomputable def AV.onAgg {β : Type} (v : AV) (d : β) (k : AVs → β) : β := VAgg.rec (motive := fun _ => β) d k (AV.toAgg v)
inductive VRow where
  | no
  | sl_ (a0 : Nat) (a1 : Nat) (a2 : Nat) (a3 : Nat)
  | su_ (a0 : Nat) (a1 : Nat) (a2 : Nat)
  | gs_ (a0 : Nat) (a1 : Nat)
noncomputable def AV.toRow (v : AV) : VRow := AV.rec (motive_1 := fun _ => VRow) (motive_2 := fun _ => PUnit.{1}) (fun _ => .no) (fun _ _ => .no) (fun _ _ => .no) (fun _ _ => .no) (.no) (fun a0 a1 a2 a3 => .sl_ a0 a1 a2 a3) (fun a0 a1 a2 => .su_ a0 a1 a2) (fun a0 a1 => .gs_ a0 a1) (.no) (fun _ _ _ => .no) (.no) (fun _ => .no) (fun _ _ _ => .no) (fun _ _ _ => .no) (.no) (fun _ => .no) (.no) (fun _ _ => .no) (fun _ _ => .no) (fun _ => .no) ⟨⟩ (fun _ _ _ _ => ⟨⟩) v
noncomputable def AV.onRow {β : Type} (v : AV) (d : β) (k : Nat → Nat → Nat → Nat → β) (q : Nat → Nat → Nat → β) (r : Nat → Nat → β) : β := VRow.rec (motive := fun _ => β) d k q r (AV.toRow v)
inductive VLen where
  | no
  | s_ (a0 : Nat) (a1 : Nat)
  | sl_ (a0 : Nat) (a1 : Nat) (a2 : Nat) (a3 : Nat)
  | su_ (a0 : Nat) (a1 : Nat) (a2 : Nat)
  | gs_ (a0 : Nat) (a1 : Nat)
  | ns_
noncomputable def AV.toLen (v : AV) : VLen := AV.rec (motive_1 := fun _ => VLen) (motive_2 := fun _ => PUnit.{1}) (fun _ => .no) (fun _ _ => .no) (fun a0 a1 => .s_ a0 a1) (fun _ _ => .no) (.no) (fun a0 a1 a2 a3 => .sl_ a0 a1 a2 a3) (fun a0 a1 a2 => .su_ a0 a1 a2) (fun a0 a1 => .gs_ a0 a1) (.ns_) (fun _ _ _ => .no) (.no) (fun _ => .no) (fun _ _ _ => .no) (fun _ _ _ => .no) (.no) (fun _ => .no) (.no) (fun _ _ => .no) (fun _ _ => .no) (fun _ => .no) ⟨⟩ (fun _ _ _ _ => ⟨⟩) v
noncomputable def AV.onLen {β : Type} (v : AV) (d : β) (k : Nat → Nat → β) (q : Nat → Nat → Nat → Nat → β) (r : Nat → Nat → Nat → β) (u : Nat → Nat → β) (x : β) : β := VLen.rec (motive := fun _ => β) d k q r u x (AV.toLen v)
inductive VFn where
  | no
  | fn_ (a0 : FuncId) (a1 : AVs)
  | yl_ (a0 : Nat)
noncomputable def AV.toFn (v : AV) : VFn := AV.rec (motive_1 := fun _ => VFn) (motive_2 := fun _ => PUnit.{1}) (fun _ => .no) (fun _ _ => .no) (fun _ _ => .no) (fun _ _ => .no) (.no) (fun _ _ _ _ => .no) (fun _ _ _ => .no) (fun _ _ => .no) (.no) (fun a0 a1 _ => .fn_ a0 a1) (.no) (fun a0 => .yl_ a0) (fun _ _ _ => .no) (fun _ _ _ => .no) (.no) (fun _ => .no) (.no) (fun _ _ => .no) (fun _ _ => .no) (fun _ => .no) ⟨⟩ (fun _ _ _ _ => ⟨⟩) v
noncomputable def AV.onFn {β : Type} (v : AV) (d : β) (k : FuncId → AVs → β) (q : Nat → β) : β := VFn.rec (motive := fun _ => β) d k q (AV.toFn v)
inductive VIfc where
  | no
  | ifc_ (a0 : TypeId) (a1 : AV)
noncomputable def AV.toIfc (v : AV) : VIfc := AV.rec (motive_1 := fun _ => VIfc) (motive_2 := fun _ => PUnit.{1}) (fun _ => .no) (fun _ _ => .no) (fun _ _ => .no) (fun _ _ => .no) (.no) (fun _ _ _ _ => .no) (fun _ _ _ => .no) (fun _ _ => .no) (.no) (fun _ _ _ => .no) (.no) (fun _ => .no) (fun _ _ _ => .no) (fun a0 a1 _ => .ifc_ a0 a1) (.no) (fun _ => .no) (.no) (fun _ _ => .no) (fun _ _ => .no) (fun _ => .no) ⟨⟩ (fun _ _ _ _ => ⟨⟩) v
noncomputable def AV.onIfc {β : Type} (v : AV) (d : β) (k : TypeId → AV → β) : β := VIfc.rec (motive := fun _ => β) d k (AV.toIfc v)
inductive VBT where
  | no
  | b_ (a0 : Bool)
  | tup_ (a0 : AVs)
noncomputable def AV.toBT (v : AV) : VBT := AV.rec (motive_1 := fun _ => VBT) (motive_2 := fun _ => PUnit.{1}) (fun a0 => .b_ a0) (fun _ _ => .no) (fun _ _ => .no) (fun _ _ => .no) (.no) (fun _ _ _ _ => .no) (fun _ _ _ => .no) (fun _ _ => .no) (.no) (fun _ _ _ => .no) (.no) (fun _ => .no) (fun _ _ _ => .no) (fun _ _ _ => .no) (.no) (fun _ => .no) (.no) (fun _ _ => .no) (fun a0 _ => .tup_ a0) (fun _ => .no) ⟨⟩ (fun _ _ _ _ => ⟨⟩) v
noncomputable def AV.onBT {β : Type} (v : AV) (d : β) (k : Bool → β) (q : AVs → β) : β := VBT.rec (motive := fun _ => β) d k q (AV.toBT v)
noncomputable def AV.bPt (v : AV) : Bool := AV.rec (motive_1 := fun _ => Bool) (motive_2 := fun _ => PUnit.{1}) (fun _ => false) (fun _ _ => false) (fun _ _ => false) (fun _ _ => true) (false) (fun _ _ _ _ => false) (fun _ _ _ => false) (fun _ _ => false) (false) (fun _ _ _ => true) (false) (fun _ => false) (fun _ _ _ => false) (fun _ _ _ => true) (false) (fun _ => false) (false) (fun _ _ => false) (fun _ _ => false) (fun _ => false) ⟨⟩ (fun _ _ _ _ => ⟨⟩) v
noncomputable def AV.isPt {β : Type} (v : AV) (d k : β) : β := Bool.rec (motive := fun _ => β) d k v.bPt
noncomputable def AV.bMany (v : AV) : Bool := AV.rec (motive_1 := fun _ => Bool) (motive_2 := fun _ => PUnit.{1}) (fun _ => false) (fun _ _ => false) (fun _ _ => false) (fun _ _ => false) (false) (fun _ _ _ _ => false) (fun _ _ _ => false) (fun _ _ => false) (false) (fun _ _ _ => false) (false) (fun _ => false) (fun _ _ _ => false) (fun _ _ _ => false) (false) (fun _ => false) (false) (fun _ _ => true) (fun _ _ => true) (fun _ => false) ⟨⟩ (fun _ _ _ _ => ⟨⟩) v
inductive OIt where
  | no
  | yes (n d i : Nat)
noncomputable def AO.toIt (o : AO) : OIt := AO.rec (motive := fun _ => OIt) (fun _ _ _ => .no) (fun _ _ _ _ => .no) (fun a b c => .yes a b c) (fun _ => .no) (fun _ _ _ _ _ _ => .no) (fun _ => .no) .no o
noncomputable def AO.onIter {β : Type} (o : AO) (d : β) (k : Nat → Nat → Nat → β) : β := OIt.rec (motive := fun _ => β) d k o.toIt
noncomputable def onO {α β : Type} (o : Option α) (d : β) (k : α → β) : β := Option.rec (motive := fun _ => β) d k o
noncomputable def onB {β : Type} (b : Bool) (t f : β) : β := Bool.rec (motive := fun _ => β) f t b
noncomputable def R.on {β : Type} (r : R) (d : β) (k : AV → T AO → Nat → β) : β := R.rec (motive := fun _ => β) k d r
noncomputable def RSv.on {β : Type} (r : RSv) (d : β) (k : T AV → T AO → Nat → β) : β := RSv.rec (motive := fun _ => β) k d r
noncomputable def RC.on {β : Type} (r : RC) (d : β) (k : XT → T AV → T AO → Nat → β) : β := RC.rec (motive := fun _ => β) k d r
noncomputable def XT.on {β : Type} (x : XT) (n r : β) (e : Nat → β) : β := XT.rec (motive := fun _ => β) n r e x
noncomputable def AO.toRd (o : AO) : Option (T AV) := AO.rec (motive := fun _ => Option (T AV)) (fun t _ _ => some t) (fun t _ _ _ => some t) (fun _ _ _ => none) (fun t => some t) (fun _ _ _ _ _ _ => none) (fun _ => none) none o
noncomputable def AO.onRd {β : Type} (o : AO) (d : β) (k : T AV → β) : β := Option.rec (motive := fun _ => β) d k o.toRd
inductive OTr where
  | no
  | yes (t : T AV) (mk : T AV → AO)
noncomputable def AO.toTr (o : AO) : OTr := AO.rec (motive := fun _ => OTr) (fun t n e => .yes t fun t => .cells t n e) (fun t n z e => .yes t fun t => .grow t n z e) (fun _ _ _ => .no) (fun _ => .no) (fun _ _ _ _ _ _ => .no) (fun _ => .no) .no o
noncomputable def AO.onTr {β : Type} (o : AO) (d : β) (k : T AV → (T AV → AO) → β) : β := OTr.rec (motive := fun _ => β) d k o.toTr
theorem onO_some {α β : Type} (a : α) (d : β) (k : α → β) : onO (some a) d k = k a := rfl
theorem onO_none {α β : Type} (d : β) (k : α → β) : onO none d k = d := rfl
/-- An operand. -/
noncomputable def cX (x : Operand) : Hd (T AV → Option AV) :=
  match x with
  | .tmp t => T.getB t
  | .const v => match ofV v with | some a => .mk fun _ => some a | none => .mk fun _ => none
  | .func f => .mk fun _ => some (.fn f .nil)
  | .global _ => .mk fun _ => none
theorem cX_eq (x : Operand) (sl : T AV) : (cX x).un sl = evX sl x := by
  cases x with
  | tmp t => simp only [cX, evX, T.get_def, Hd.bind_eq]
  | const v => simp only [cX, evX]; cases ofV v <;> rfl
  | func f => rfl
  | global g => rfl
noncomputable def cXs : List Operand → Hd (T AV → Option AVs)
  | [] => .mk fun _ => some .nil
  | x :: l => (cX x).bind fun g => (cXs l).bind fun k => .mk fun sl => onO (g sl) none fun a => onO (k sl) none fun m => some (.cons a m)
theorem cXs_eq : ∀ (l : List Operand) (sl : T AV), (cXs l).un sl = evXs sl l
  | [], _ => rfl
  | x :: l, sl => by
    simp only [cXs, evXs, Hd.bind_eq, Hd.un_mk, cX_eq, cXs_eq l]
    cases evX sl x with
    | none => rfl
    | some a => cases evXs sl l <;> rfl
noncomputable def cParts : List (Nat × Operand) → Hd (T AV → Option (List (Nat × AV)))
  | [] => .mk fun _ => some []
  | (i, x) :: l => (cX x).bind fun g => (cParts l).bind fun k => .mk fun sl => onO (g sl) none fun a => onO (k sl) none fun m => some ((i, a) :: m)
theorem cParts_eq : ∀ (l : List (Nat × Operand)) (sl : T AV), (cParts l).un sl = evParts sl l
  | [], _ => rfl
  | (i, x) :: l, sl => by
    simp only [cParts, evParts, Hd.bind_eq, Hd.un_mk, cX_eq, cParts_eq l]
    cases evX sl x with
    | none => rfl
    | some a => cases evParts sl l <;> rfl
/-- A bound of a slice. -/
noncomputable def cB : Option Operand → Hd (T AV → Option (Option Nat))
  | none => .mk fun _ => some none
  | some x => (cX x).bind fun g => .mk fun sl => onO (g sl) none fun v => v.onI none fun _ n => Int.rec (motive := fun _ => Option (Option Nat)) (fun k => some (some k)) (fun _ => none) n
theorem cB_eq (x : Option Operand) (sl : T AV) : (cB x).un sl = evB sl x := by
  cases x with
  | none => rfl
  | some x =>
    simp only [cB, evB, Hd.bind_eq, Hd.un_mk, cX_eq]
    cases evX sl x with
    | none => rfl
    | some v =>
      cases v <;> try rfl
      rename_i k n
      cases n <;> rfl
/- Numbers. -/
noncomputable def ltF (x y : Int) : Bool := Int.rec (motive := fun _ => Bool) (fun a => Int.rec (motive := fun _ => Bool) (fun b => Nat.ble (Nat.succ a) b) (fun _ => false) y) (fun a => Int.rec (motive := fun _ => Bool) (fun _ => true) (fun b => Nat.ble (Nat.succ b) a) y) x
theorem ltF_eq (x y : Int) : ltF x y = ltI x y := by cases x <;> cases y <;> rfl
noncomputable def eqF (x y : Int) : Bool := Int.rec (motive := fun _ => Bool) (fun a => Int.rec (motive := fun _ => Bool) (fun b => Nat.beq a b) (fun _ => false) y) (fun a => Int.rec (motive := fun _ => Bool) (fun _ => false) (fun b => Nat.beq a b) y) x
theorem eqF_eq (x y : Int) : eqF x y = eqI x y := by cases x <;> cases y <;> rfl
noncomputable def is64 (k : IntKind) : Bool := eqK k .i64
theorem is64_is {k : IntKind} (h : is64 k = true) : k = .i64 := eqK_eq h
noncomputable def addF (k : IntKind) (x y : Int) : Int :=
  Int.rec (motive := fun _ => Int) (fun a => Int.rec (motive := fun _ => Int) (fun b => onB (is64 k) (onB (Nat.ble (Nat.add a b) 9223372036854775807) (.ofNat (Nat.add a b)) (wrapF k (Int.add (.ofNat a) (.ofNat b)))) (wrapF k (Int.add (.ofNat a) (.ofNat b)))) (fun b => wrapF k (Int.add (.ofNat a) (.negSucc b))) y) (fun a => wrapF k (Int.add (.negSucc a) y)) x
theorem addF_eq (k : IntKind) (x y : Int) : addF k x y = wrapF k (Int.add x y) := by
  cases x with
  | negSucc a => rfl
  | ofNat a =>
    cases y with
    | negSucc b => rfl
    | ofNat b =>
      show onB (is64 k) _ _ = _
      cases e : is64 k with
      | false => rfl
      | true =>
        have := is64_is e; subst this
        show onB (Nat.ble (Nat.add a b) 9223372036854775807) _ _ = _
        cases e2 : Nat.ble (Nat.add a b) 9223372036854775807 with
        | false => rfl
        | true => show _ = (bif Nat.ble (a + b) 9223372036854775807 then _ else _); rw [show Nat.ble (a + b) 9223372036854775807 = true from e2]; rfl
noncomputable def subF (k : IntKind) (x y : Int) : Int :=
  Int.rec (motive := fun _ => Int) (fun a => Int.rec (motive := fun _ => Int) (fun b => onB (is64 k) (onB (Nat.ble b a) (onB (Nat.ble a 9223372036854775807) (.ofNat (Nat.sub a b)) (wrapF k (Int.sub (.ofNat a) (.ofNat b)))) (wrapF k (Int.sub (.ofNat a) (.ofNat b)))) (wrapF k (Int.sub (.ofNat a) (.ofNat b)))) (fun b => wrapF k (Int.sub (.ofNat a) (.negSucc b))) y) (fun a => wrapF k (Int.sub (.negSucc a) y)) x
theorem subF_eq (k : IntKind) (x y : Int) : subF k x y = wrapF k (Int.sub x y) := by
  cases x with
  | negSucc a => rfl
  | ofNat a =>
    cases y with
    | negSucc b => rfl
    | ofNat b =>
      show onB (is64 k) _ _ = _
      cases e : is64 k with
      | false => rfl
      | true =>
        have := is64_is e; subst this
        show onB (Nat.ble b a) _ _ = _
        cases e1 : Nat.ble b a with
        | false => rfl
        | true =>
          show onB (Nat.ble a 9223372036854775807) _ _ = _
          cases e2 : Nat.ble a 9223372036854775807 with
          | false => rfl
          | true =>
            rw [Nat.ble_eq] at e1 e2
            have h1 : Int.sub (.ofNat a) (.ofNat b) = .ofNat (a - b) := by
              show (a : Int) - (b : Int) = ((a - b : Nat) : Int)
              omega
            show Int.ofNat (a - b) = _
            rw [h1]
            show _ = (bif Nat.ble (a - b) 9223372036854775807 then _ else _)
            rw [show Nat.ble (a - b) 9223372036854775807 = true by rw [Nat.ble_eq]; omega]; rfl
end Go.Proofs.YteogphbdpjnjoaaGreat
namespace Go.Proofs.YteogphbdpjnjoaaGreat
open Go.RowKit
variable {P : Program} {N : Nat}

theorem allI_intro {f : Nat → Oper → Bool} : ∀ {l : List Oper} {k : Nat}, (∀ j o, l[j]? = some o → f (k + j) o = true) → allI f k l = true
  | [], _, _ => rfl
  | o :: l, k, H => by
    simp only [allI, Bool.and_eq_true]
    exact ⟨H 0 o rfl, allI_intro fun j q h => by rw [show Nat.succ k + j = k + (j + 1) by omega]; exact H (j + 1) q (by simpa using h)⟩
/-- What stands ahead of one, as a number. -/
noncomputable def stepT (b : T Nat) (l : List Edge) : Nat → Nat :=
  List.rec (motive := fun _ => Nat → Nat) (fun s => s) (fun e _ ih s => onB (Region.binds .any e) (ih (Nat.lor (Nat.lor s (Nat.pow 2 e.on)) (onO (b.get e.on) 0 fun x => x))) (ih s)) l
theorem stepT_is {b : T Nat} {acc : Array Nat} (h : ∀ j, b.get j = acc[j]?) : ∀ (l : List Edge) (s : Nat), stepT b l s = l.foldl (fun s e => if Region.binds .any e then s ||| 2 ^ e.on ||| acc.getD e.on 0 else s) s
  | [], s => rfl
  | e :: l, s => by
    show onB (Region.binds .any e) (stepT b l (Nat.lor (Nat.lor s (Nat.pow 2 e.on)) (onO (b.get e.on) 0 fun x => x))) (stepT b l s) = _
    rw [List.foldl_cons, stepT_is h l, stepT_is h l, h]
    have : onO acc[e.on]? 0 (fun x => x) = acc.getD e.on 0 := by
      rw [Array.getD_eq_getD_getElem?]
      cases acc[e.on]? <;> rfl
    rw [this]
    cases Region.binds .any e <;> rfl
noncomputable def befL (l : List Oper) : Nat → T Nat → T Nat :=
  List.rec (motive := fun _ => Nat → T Nat → T Nat) (fun _ b => b) (fun o _ ih i b => (b.put i (stepT b o.after.toList 0)).seq fun b => ih (Nat.succ i) b) l
theorem befL_is : ∀ (l : List Oper) (b : T Nat) (acc : Array Nat), (∀ j, b.get j = acc[j]?) → ∀ j, (befL l acc.size b).get j = (l.foldl (fun acc o => acc.push (stepB acc o)) acc)[j]?
  | [], b, acc, h, j => h j
  | o :: l, b, acc, h, j => by
    show ((b.put acc.size (stepT b o.after.toList 0)).seq fun b => befL l (Nat.succ acc.size) b).get j = _
    rw [T.seq_eq, List.foldl_cons]
    have hs : (acc.push (stepB acc o)).size = Nat.succ acc.size := by simp
    rw [← hs]
    refine befL_is l _ _ (fun j => ?_) j
    rw [T.get_put, stepT_is h, Array.getElem?_push]
    have : o.after.toList.foldl (fun s e => if Region.binds .any e then s ||| 2 ^ e.on ||| acc.getD e.on 0 else s) 0 = stepB acc o := by
      unfold stepB; rw [← Array.foldl_toList]
    rw [this, h]
noncomputable def bef (ops : Array Oper) : T Nat := befL ops.toList 0 .nil
theorem bef_is (ops : Array Oper) (j : Nat) : (bef ops).get j = (Region.before ops)[j]? := by
  have := befL_is ops.toList .nil #[] (fun j => by rw [T.get_nil]; simp) j
  rw [before_is]; exact this
noncomputable def bOf (b : T Nat) (i : Nat) : Nat := onO (b.get i) 0 fun x => x
theorem bOf_is (ops : Array Oper) (i : Nat) : bOf (bef ops) i = (Region.before ops).getD i 0 := by
  unfold bOf
  rw [bef_is, Array.getD_eq_getD_getElem?]
  cases (Region.before ops)[i]? <;> rfl
/-- Who writes a slot. -/
noncomputable def wrL (l : List Oper) : Nat → T Nat → T Nat :=
  List.rec (motive := fun _ => Nat → T Nat → T Nat) (fun _ b => b) (fun o _ ih i b => onO o.dst (ih (Nat.succ i) b) fun d => (b.put d i).seq fun b => ih (Nat.succ i) b) l
noncomputable def allF {α : Type} (f : α → Bool) (l : List α) : Bool := List.rec (motive := fun _ => Bool) true (fun a _ ih => onB (f a) ih false) l
theorem allF_eq {α : Type} (f : α → Bool) : ∀ l : List α, allF f l = l.all f
  | [] => rfl
  | a :: l => by
    show onB (f a) (allF f l) false = _
    rw [allF_eq f l, List.all_cons]; cases f a <;> rfl
noncomputable def chF (l : List Oper) : Nat → Nat := List.rec (motive := fun _ => Nat → Nat) (fun _ => 0) (fun o _ ih k => onB (Nat.beq (kindOf o.op) 2) (Nat.lor (Nat.pow 2 k) (ih (Nat.succ k))) (ih (Nat.succ k))) l
theorem chF_eq : ∀ (l : List Oper) (k : Nat), chF l k = chMask k l
  | [], _ => rfl
  | o :: l, k => by
    show onB (Nat.beq (kindOf o.op) 2) (Nat.lor (Nat.pow 2 k) (chF l (Nat.succ k))) (chF l (Nat.succ k)) = _
    rw [chF_eq l]; simp only [chMask, onB_eq']
    where onB_eq' {α : Type} {b : Bool} {x y : α} : onB b x y = bif b then x else y := by cases b <;> rfl
noncomputable def and2 (a b : Bool) : Bool := onB a b false
theorem and2_eq (a b : Bool) : and2 a b = (a && b) := by cases a <;> rfl
noncomputable def or2 (a b : Bool) : Bool := onB a true b
theorem or2_eq (a b : Bool) : or2 a b = (a || b) := by cases a <;> rfl
/-- What the plan needs of one operation. -/
noncomputable def st1F (ops : Array Oper) (b W : T Nat) (N n chm i : Nat) (o : Oper) : Bool :=
  and2 (gdB ops (bOf b i) o) (and2 (allF (fun e => onB (Region.binds .any e) (Nat.ble (Nat.succ e.on) i) true) o.after.toList)
    (and2 (onO o.dst true fun d => and2 (Nat.ble (Nat.succ d) N) (onO (W.get d) false fun j => Nat.beq i j))
      (and2 (allF (fun t => onO (W.get t) true fun k => or2 (tb (bOf b i) k) (or2 (tb (bOf b k) i) (Nat.beq k i))) (opTmps o.op))
        (and2 (onB (Nat.beq (kindOf o.op) 2) (Nat.beq (Nat.land (Nat.mod chm (Nat.pow 2 i)) (bOf b i)) (Nat.mod chm (Nat.pow 2 i))) true) (Nat.ble (kindOf o.op) 2)))))
noncomputable def stL (ops : Array Oper) (b W : T Nat) (N n chm : Nat) (l : List Oper) : Nat → Bool :=
  List.rec (motive := fun _ => Nat → Bool) (fun _ => true) (fun o _ ih i => onB (st1F ops b W N n chm i o) (ih (Nat.succ i)) false) l
theorem stL_is {ops : Array Oper} {b W : T Nat} {n chm : Nat} : ∀ {l : List Oper} {k : Nat}, stL ops b W N n chm l k = true → ∀ j o, l[j]? = some o → st1F ops b W N n chm (k + j) o = true
  | [], _, _, j, o, h => by simp at h
  | x :: l, k, h, j, o, e => by
    have h : onB (st1F ops b W N n chm k x) (stL ops b W N n chm l (Nat.succ k)) false = true := h
    cases hx : st1F ops b W N n chm k x with
    | false => rw [hx] at h; cases h
    | true =>
      rw [hx] at h
      cases j with
      | zero => simp at e; subst e; exact hx
      | succ j =>
        have := stL_is (l := l) (k := Nat.succ k) h j o (by simpa using e)
        rw [show k + (j + 1) = Nat.succ k + j by omega]; exact this
theorem stat_of {ops : Array Oper} {W : T Nat} {n : Nat} (h : stL ops (bef ops) W N n (chF ops.toList 0) ops.toList 0 = true) : statB ops N = true := by
  have H : ∀ i o, ops.toList[i]? = some o → st1F ops (bef ops) W N n (chF ops.toList 0) i o = true := fun i o e => by
    have := stL_is h i o e
    rwa [Nat.zero_add] at this
  have hW : ∀ i o d, ops.toList[i]? = some o → o.dst = some d → W.get d = some i := fun i o d e hd => by
    have := H i o e
    simp only [st1F, and2_eq, Bool.and_eq_true, hd, onO_some] at this
    obtain ⟨_, _, ⟨_, hw⟩, _⟩ := this
    cases hg : W.get d with
    | none => rw [hg] at hw; cases hw
    | some j =>
      rw [hg] at hw
      have : Nat.beq i j = true := hw
      rw [Nat.beq_eq] at this; rw [this]
  refine allI_intro fun i o e => ?_
  rw [Nat.zero_add]
  have hi := H i o e
  simp only [st1F, and2_eq, Bool.and_eq_true, allF_eq, bOf_is, chF_eq, or2_eq] at hi
  obtain ⟨h1, h2, h3, h4, h5, h6⟩ := hi
  unfold stat1
  simp only [Bool.and_eq_true]
  refine ⟨?_, ?_, ?_, ?_, ?_, h6⟩
  · exact h1
  · rw [List.all_eq_true] at h2 ⊢
    intro x hx
    have := h2 x hx
    cases hb : Region.binds .any x with
    | false => rfl
    | true =>
      rw [hb] at this
      have t : Nat.ble (Nat.succ x.on) i = true := this
      rw [t]; rfl
  · cases hd : o.dst with
    | none => rfl
    | some d =>
      simp only [hd, onO_some, Bool.and_eq_true] at h3
      simp only [Bool.and_eq_true]
      refine ⟨h3.1, allI_intro fun j q hq => ?_⟩
      rw [Nat.zero_add]
      cases hqd : q.dst with
      | none => rfl
      | some e2 =>
        simp only [Bool.or_eq_true, Bool.not_eq_true']
        by_cases hh : e2 = d
        · subst hh
          have k1 := hW i o e2 e hd
          have k2 := hW j q e2 hq hqd
          rw [k1] at k2; cases k2
          exact .inr (beq_t rfl)
        · exact .inl (beq_f hh)
  · rw [List.all_eq_true] at h4 ⊢
    intro t ht
    have ht' := h4 t ht
    refine allI_intro fun k q hq => ?_
    rw [Nat.zero_add]
    cases hqd : q.dst with
    | none => rfl
    | some e2 =>
      simp only [Bool.or_eq_true, Bool.not_eq_true']
      by_cases hh : e2 = t
      · subst hh
        rw [hW k q e2 hq hqd] at ht'
        simp only [onO_some, Bool.or_eq_true] at ht'
        refine .inr ?_
        rcases ht' with g | g | g
        · exact .inl g
        · refine .inr (.inl ?_)
          unfold preB
          rw [Bool.and_eq_true]
          refine ⟨?_, by rw [← tb_eq]; exact g⟩
          rw [Nat.ble_eq]
          have : k < ops.size := by simpa using (List.getElem?_eq_some_iff.1 hq).1
          exact this
        · exact .inr (.inr g)
      · exact .inl (beq_f hh)
  · rw [Bool.or_eq_true, Bool.not_eq_true']
    cases hk : Nat.beq (kindOf o.op) 2 with
    | false => exact .inl rfl
    | true => rw [hk] at h5; exact .inr h5
/- The plan. -/
noncomputable def filF (f : Nat → Bool) (l : List Nat) : List Nat := List.rec (motive := fun _ => List Nat) [] (fun a _ ih => onB (f a) (a :: ih) ih) l
noncomputable def idx (l : List Oper) : Nat → List Nat := List.rec (motive := fun _ => Nat → List Nat) (fun _ => []) (fun _ _ ih i => i :: ih (Nat.succ i)) l
noncomputable def goF (b : T Nat) (all : List Nat) (ch : List Nat) : Nat → List Nat :=
  List.rec (motive := fun _ => Nat → List Nat) (fun dm => filF (fun i => onB (tb dm i) false true) all) (fun j _ ih dm => filF (fun i => onB (tb (bOf b j) i) (onB (tb dm i) false true) false) all ++ j :: ih (Nat.lor (Nat.lor dm (bOf b j)) (Nat.pow 2 j))) ch
noncomputable def planF (ops : Array Oper) : List Nat := (bef ops).seq fun b => goF b (idx ops.toList 0) (filF (fun i => tb (chF ops.toList 0) i) (idx ops.toList 0)) 0
noncomputable def plF (b : T Nat) (n chm : Nat) (l : List Nat) : Nat → Bool :=
  List.rec (motive := fun _ => Nat → Bool) (fun dm => Nat.beq dm (Nat.sub (Nat.pow 2 n) 1)) (fun i _ ih dm => and2 (Nat.ble (Nat.succ i) n) (and2 (onB (tb dm i) false true) (and2 (Nat.beq (Nat.land (bOf b i) dm) (bOf b i)) (and2 (onB (tb chm i) (Nat.beq (Nat.land dm (bOf b i)) dm) true) (ih (Nat.lor dm (Nat.pow 2 i))))))) l
theorem plF_is {ops : Array Oper} : ∀ {l : List Nat} {dm : Nat}, plF (bef ops) ops.size (chF ops.toList 0) l dm = true → planB ops dm l = true
  | [], dm, h => h
  | i :: l, dm, h => by
    have h : and2 (Nat.ble (Nat.succ i) ops.size) (and2 (onB (tb dm i) false true) (and2 (Nat.beq (Nat.land (bOf (bef ops) i) dm) (bOf (bef ops) i)) (and2 (onB (tb (chF ops.toList 0) i) (Nat.beq (Nat.land dm (bOf (bef ops) i)) dm) true) (plF (bef ops) ops.size (chF ops.toList 0) l (Nat.lor dm (Nat.pow 2 i)))))) = true := h
    simp only [and2_eq, Bool.and_eq_true, bOf_is] at h
    obtain ⟨h1, h2, h3, h4, h5⟩ := h
    simp only [planB, Bool.and_eq_true]
    refine ⟨h1, ?_, h3, ?_, plF_is h5⟩
    · cases e : tb dm i with
      | false => rfl
      | true => rw [e] at h2; cases h2
    · rw [Bool.or_eq_true, Bool.not_eq_true']
      cases hc : chB ops i with
      | false => exact .inl rfl
      | true =>
        refine .inr ?_
        rw [Nat.ble_eq] at h1
        have hlt : i < ops.size := h1
        have hk : kindOf (ops[i]).op = 2 := by
          have := hc
          unfold chB knd opO at this
          rw [Nat.beq_eq] at this
          rw [← this, Array.getD_eq_getD_getElem?, Array.getElem?_eq_getElem hlt]; rfl
        have := chMask_is (l := ops.toList) (k := 0) (j := i) (o := ops[i]) (by simp [hlt]) hk
        rw [Nat.zero_add, ← chF_eq, ← tb_eq] at this
        rw [this] at h4; exact h4
noncomputable def chkF (N : Nat) (ops : Array Oper) : Bool :=
  (bef ops).seq fun b => (wrL ops.toList 0 .nil).seq fun W => and2 (stL ops b W N ops.size (chF ops.toList 0) ops.toList 0) (plF b ops.size (chF ops.toList 0) (planF ops) 0)
theorem chkF_is {ops : Array Oper} (h : chkF N ops = true) : statB ops N = true ∧ planB ops 0 (planF ops) = true := by
  unfold chkF at h
  rw [T.seq_eq, T.seq_eq, and2_eq, Bool.and_eq_true] at h
  exact ⟨stat_of h.1, plF_is h.2⟩
end Go.Proofs.YteogphbdpjnjoaaGreat
namespace Go.Proofs.YteogphbdpjnjoaaGreat
open Go.RowKit
variable {P : Program} {N : Nat}

/-- n cells from a place on. -/
noncomputable def rdF (n : Nat) : T AV → Nat → Option AVs :=
  Nat.rec (motive := fun _ => T AV → Nat → Option AVs) (fun _ _ => some .nil) (fun _ ih t off => onO (t.get off) none fun v => onO (ih t (Nat.succ off)) none fun l => some (AVs.cons v l)) n
theorem rdF_eq : ∀ (n : Nat) (t : T AV) (off : Nat), rdF n t off = readN t n off
  | 0, _, _ => rfl
  | n + 1, t, off => by
    show onO (t.get off) none (fun v => onO (rdF n t (Nat.succ off)) none fun l => some (AVs.cons v l)) = _
    rw [rdF_eq n]; simp only [readN]
    cases t.get off with
    | none => rfl
    | some v => cases readN t n (Nat.succ off) <;> rfl
/-- A load's cells. -/
noncomputable def cLd (P : Program) (t : TypeId) : Hd (T AV → Nat → Option AV) :=
  match aggTy P t, sizeTy P t with
  | 1, some n => .mk fun tr off => onO (rdF n tr off) none fun l => some (.agg l)
  | 2, _ => .mk fun tr off => tr.get off
  | _, _ => .mk fun _ _ => none
noncomputable def ldF (ld : T AV → Nat → Option AV) (h : T AO) (x : AV) : Option AV := x.onP none fun id off => onO (h.get id) none fun o => o.onRd none fun tr => ld tr off
theorem ldF_eq (t : TypeId) (h : T AO) (x : AV) : ldF (cLd P t).un h x = evLoad P h t x := by
  cases x <;> try rfl
  rename_i id off
  show onO (h.get id) none _ = _
  simp only [evLoad]
  cases h.get id with
  | none => rfl
  | some o =>
    simp only [onO_some]
    have key : ∀ tr : T AV, (cLd P t).un tr off = (match aggTy P t, sizeTy P t with | 1, some n => (match readN tr n off with | some l => some (AV.agg l) | none => none) | 2, _ => tr.get off | _, _ => none) := by
      intro tr
      unfold cLd
      split
      · rename_i n h1 h2
        simp only [Hd.un_mk, rdF_eq]
        cases readN tr n off <;> rfl
      · rfl
      · rfl
    cases o with
    | iter _ _ _ => rfl
    | lp _ _ _ _ _ _ => rfl
    | mps _ => rfl
    | gl => rfl
    | cells tr n e => exact key tr
    | grow tr n z e => exact key tr
    | ro tr => exact key tr
noncomputable def lenF (l : AVs) : Nat := AVs.rec (motive_1 := fun _ => PUnit.{1}) (motive_2 := fun _ => Nat) (fun _ => ⟨⟩) (fun _ _ => ⟨⟩) (fun _ _ => ⟨⟩) (fun _ _ => ⟨⟩) ⟨⟩ (fun _ _ _ _ => ⟨⟩) (fun _ _ _ => ⟨⟩) (fun _ _ => ⟨⟩) ⟨⟩ (fun _ _ _ => ⟨⟩) ⟨⟩ (fun _ => ⟨⟩) (fun _ _ _ => ⟨⟩) (fun _ _ _ => ⟨⟩) ⟨⟩ (fun _ => ⟨⟩) ⟨⟩ (fun _ _ => ⟨⟩) (fun _ _ => ⟨⟩) (fun _ => ⟨⟩) 0 (fun _ _ _ ih => Nat.succ ih) l
/-- A store of one cell, and any. -/
noncomputable def st1 (h : T AO) (nx : Nat) (x v : AV) (slow : R) : R :=
  x.onP slow fun id off => onO (h.get id) slow fun o => o.onTr slow fun tr mk => onO (tr.get off) slow fun _ => (tr.put off v).seq fun t' => (h.put id (mk t')).seq fun h => .ok (.tup .nil) h nx
noncomputable def one1 (v : AV) (a b : R) : R := Bool.rec (motive := fun _ => R) a b v.bMany
noncomputable def cSt (P : Program) (t : TypeId) : Hd (T AO → Nat → AV → AV → R) :=
  match sizeTy P t with
  | some 1 => .mk fun h nx x v => one1 v (st1 h nx x v (evStore P h nx t x v)) (evStore P h nx t x v)
  | _ => .mk fun h nx x v => evStore P h nx t x v
theorem st1_eq {t : TypeId} (hs : sizeTy P t = some 1) (h : T AO) (nx : Nat) (x v : AV) (h1 : v.cells = .cons v .nil) (h2 : v.one = true) : st1 h nx x v (evStore P h nx t x v) = evStore P h nx t x v := by
  cases x <;> try rfl
  rename_i id off
  show onO (h.get id) _ _ = _
  cases e : h.get id with
  | none => rfl
  | some o =>
    simp only [onO_some]
    have key : ∀ tr : T AV, o.tr = some tr → onO (tr.get off) (evStore P h nx t (.p id off) v) (fun _ => (tr.put off v).seq fun t' => (h.put id (o.setTr t')).seq fun h => R.ok (.tup .nil) h nx) = evStore P h nx t (.p id off) v := by
      intro tr htr
      cases g : tr.get off with
      | none => rfl
      | some y =>
        simp only [onO_some, T.seq_eq, evStore, hs, e, htr, h1]
        have hl : (AVs.cons v .nil).len = 1 := rfl
        have ho : (AVs.cons v .nil).ones = true := by simp [AVs.ones, h2]
        rw [hl, ho]
        simp only [beq_t (rfl : (1:Nat) = 1), Bool.and_true, cond_true, writeN_cons, g, writeN, T.seq_eq]
    cases o with
    | iter _ _ _ => rfl
    | lp _ _ _ _ _ _ => rfl
    | mps _ => rfl
    | gl => rfl
    | ro tr => rfl
    | cells tr n e => exact key tr rfl
    | grow tr n z e => exact key tr rfl
theorem cSt_eq (t : TypeId) (h : T AO) (nx : Nat) (x v : AV) : (cSt P t).un h nx x v = evStore P h nx t x v := by
  unfold cSt
  split
  · rename_i hs
    simp only [Hd.un_mk]
    cases v <;> first | exact st1_eq hs h nx x _ rfl rfl | rfl
  · rfl
/-- An element's place. -/
noncomputable def cIdx (P : Program) (t : TypeId) : Hd (AV → Int → Option AV) :=
  match idxTy P t with
  | (1, z, _) => .mk fun x n => Int.rec (motive := fun _ => Option AV) (fun k => x.onRow none
      (fun id off len _ => onB (Nat.ble (Nat.succ k) len) (some (.p id (Nat.add off (Nat.mul k z)))) none)
      (fun id off len => onB (Nat.ble (Nat.succ k) len) (some (.p id (Nat.add off (Nat.mul k z)))) none)
      (fun id len => onB (Nat.ble (Nat.succ k) len) (some (.p id (Nat.mul k z))) none)) (fun _ => none) n
  | _ => .mk fun x n => evIdx P t x n
theorem onB_eq {α : Type} (b : Bool) (x y : α) : onB b x y = bif b then x else y := by cases b <;> rfl
theorem cIdx_eq (t : TypeId) (x : AV) (n : Int) : (cIdx P t).un x n = evIdx P t x n := by
  unfold cIdx
  split
  · rename_i z y hi
    cases n with
    | negSucc k => simp only [Hd.un_mk, evIdx, hi, natOf]
    | ofNat k =>
      simp only [Hd.un_mk, evIdx, hi, natOf]
      cases x <;> first | rfl | (exact onB_eq ..)
  · rfl
/-- A byte of a text. -/
noncomputable def strF (n d : Nat) (i : Int) : Option AV := Int.rec (motive := fun _ => Option AV) (fun k => onB (Nat.ble (Nat.succ k) n) (some (.i .u8 (.ofNat (Nat.mod (Nat.shiftRight d (Nat.mul 8 k)) 256)))) none) (fun _ => none) i
noncomputable def cIx (P : Program) (t : TypeId) : Hd (AV → AV → Option AV) :=
  match P.underlying t with
  | some .string => .mk fun x i => x.onS (evIndex P t x i) fun n d => i.onI (evIndex P t x i) fun _ k => strF n d k
  | _ => .mk fun x i => evIndex P t x i
theorem cIx_eq (t : TypeId) (x i : AV) : (cIx P t).un x i = evIndex P t x i := by
  unfold cIx
  split
  · rename_i hu
    cases x <;> try rfl
    cases i <;> try rfl
    rename_i n d k j
    show strF n d j = evStrAt P t n d j
    simp only [evStrAt, hu]
    cases j with
    | negSucc k => rfl
    | ofNat k => exact onB_eq ..
  · rfl
/-- A length. -/
noncomputable def cLen (P : Program) (t : TypeId) : Hd (AV → Option AV) :=
  match lenTy P t with
  | 1 => .mk fun x => x.onS (evLen P t x) fun n _ => some (.i .i64 (.ofNat n))
  | 2 => .mk fun x => x.onLen none (fun _ _ => none) (fun _ _ n _ => some (.i .i64 (.ofNat n))) (fun _ _ n => some (.i .i64 (.ofNat n))) (fun _ n => some (.i .i64 (.ofNat n))) (some (.i .i64 (.ofNat 0)))
  | _ => .mk fun x => evLen P t x
theorem cLen_eq (t : TypeId) (x : AV) : (cLen P t).un x = evLen P t x := by
  unfold cLen
  split
  · rename_i hu; simp only [Hd.un_mk, evLen, hu]; cases x <;> rfl
  · rename_i hu; simp only [Hd.un_mk, evLen, hu]; cases x <;> rfl
  · rfl
noncomputable def cLenH (P : Program) (t : TypeId) : Hd (T AO → AV → Option AV) :=
  match mapTy P t with
  | (0, _, _) => (cLen P t).bind fun f => .mk fun _ x => f x
  | _ => .mk fun h x => evLenH P h t x
theorem cLenH_eq (t : TypeId) (h : T AO) (x : AV) : (cLenH P t).un h x = evLenH P h t x := by
  unfold cLenH
  split
  · rename_i hu; simp only [Hd.bind_eq, Hd.un_mk, cLen_eq, evLenH, hu]
  · rfl
/-- Two values. -/
noncomputable def binSlow (P : Program) (op : BinOp) (t : TypeId) (c : Bool) (u v : AV) (h : T AO) (nx : Nat) : R :=
  match evBin P op t c u v with
  | some r => .ok r h nx
  | none => match evPtr P op t u v with
    | some r => .ok r h nx
    | none => match evY P op t u v with
      | some r => .ok r h nx
      | none => ofO h nx (evStructEq P op t u v)
noncomputable def twoI (f : IntKind → Int → Int → AV) (u v : AV) (slow : R) (h : T AO) (nx : Nat) : R := u.onI slow fun j a => v.onI slow fun k b => onB (eqK j k) (.ok (f j a b) h nx) slow
noncomputable def twoIS (f : Int → Int → Bool) (g : Nat → Nat → Nat → Nat → Bool) (u v : AV) (slow : R) (h : T AO) (nx : Nat) : R :=
  u.onIS slow (fun j a => v.onI slow fun k b => onB (eqK j k) (.ok (.b (f a b)) h nx) slow) (fun n d => v.onS slow fun m e => .ok (.b (g n d m e)) h nx)
noncomputable def sameS (n d m e : Nat) : Bool := onB (Nat.beq n m) (Nat.beq d e) false
noncomputable def cBin (P : Program) (op : BinOp) (t : TypeId) (c : Bool) : Hd (AV → AV → T AO → Nat → R) :=
  match op with
  | .add => .mk fun u v h nx => twoI (fun j a b => .i j (addF j a b)) u v (binSlow P .add t c u v h nx) h nx
  | .sub => .mk fun u v h nx => twoI (fun j a b => .i j (subF j a b)) u v (binSlow P .sub t c u v h nx) h nx
  | .lss => .mk fun u v h nx => twoI (fun _ a b => .b (ltF a b)) u v (binSlow P .lss t c u v h nx) h nx
  | .gtr => .mk fun u v h nx => twoI (fun _ a b => .b (ltF b a)) u v (binSlow P .gtr t c u v h nx) h nx
  | .leq => .mk fun u v h nx => twoI (fun _ a b => .b (onB (ltF b a) false true)) u v (binSlow P .leq t c u v h nx) h nx
  | .geq => .mk fun u v h nx => twoI (fun _ a b => .b (onB (ltF a b) false true)) u v (binSlow P .geq t c u v h nx) h nx
  | .eql => .mk fun u v h nx => twoIS eqF sameS u v (binSlow P .eql t c u v h nx) h nx
  | .neq => .mk fun u v h nx => twoIS (fun a b => onB (eqF a b) false true) (fun n d m e => onB (sameS n d m e) false true) u v (binSlow P .neq t c u v h nx) h nx
  | op => .mk fun u v h nx => binSlow P op t c u v h nx
theorem twoI_eq {op : BinOp} (h1 : op ≠ .shl) (h2 : op ≠ .shr) {t : TypeId} {c : Bool} {f : IntKind → Int → Int → AV} (hf : ∀ k x y, evInt op k x y = some (f k x y)) (u v : AV) (h : T AO) (nx : Nat) : twoI f u v (binSlow P op t c u v h nx) h nx = binSlow P op t c u v h nx := by
  cases u <;> try rfl
  cases v <;> try rfl
  rename_i j a k b
  show onB (eqK j k) _ _ = _
  cases e : eqK j k with
  | false => rfl
  | true =>
    have hb : evBin P op t c (.i j a) (.i k b) = some (f j a b) := by
      rw [← hf]; cases op <;> first | exact absurd rfl h1 | exact absurd rfl h2 | (simp only [evBin, e, cond_true])
    simp only [binSlow, hb]; rfl
theorem not_onB (b : Bool) : onB b false true = !b := by cases b <;> rfl
theorem sameS_eq (n d m e : Nat) : sameS n d m e = (Nat.beq n m && Nat.beq d e) := by unfold sameS; cases Nat.beq n m <;> rfl
theorem cBin_eq (op : BinOp) (t : TypeId) (c : Bool) (u v : AV) (h : T AO) (nx : Nat) : (cBin P op t c).un u v h nx = binSlow P op t c u v h nx := by
  cases op <;> try rfl
  case add => exact twoI_eq (by simp) (by simp) (fun k x y => by simp only [evInt, addF_eq]) u v h nx
  case sub => exact twoI_eq (by simp) (by simp) (fun k x y => by simp only [evInt, subF_eq]) u v h nx
  case lss => exact twoI_eq (by simp) (by simp) (fun k x y => by simp only [evInt, ltF_eq]) u v h nx
  case gtr => exact twoI_eq (by simp) (by simp) (fun k x y => by simp only [evInt, ltF_eq]) u v h nx
  case leq => exact twoI_eq (by simp) (by simp) (fun k x y => by simp only [evInt, ltF_eq, not_onB]) u v h nx
  case geq => exact twoI_eq (by simp) (by simp) (fun k x y => by simp only [evInt, ltF_eq, not_onB]) u v h nx
  case eql =>
    have hi := twoI_eq (P := P) (op := .eql) (by simp) (by simp) (t := t) (c := c) (f := fun _ a b => .b (eqF a b)) (fun k x y => by simp only [evInt, eqF_eq]) u v h nx
    cases u <;> try rfl
    · exact hi
    · cases v <;> try rfl
      rename_i n d m e
      show R.ok (.b (sameS n d m e)) h nx = _
      simp only [binSlow, evBin, evStr, sameS_eq]
  case neq =>
    have hi := twoI_eq (P := P) (op := .neq) (by simp) (by simp) (t := t) (c := c) (f := fun _ a b => .b (onB (eqF a b) false true)) (fun k x y => by simp only [evInt, eqF_eq, not_onB]) u v h nx
    cases u <;> try rfl
    · exact hi
    · cases v <;> try rfl
      rename_i n d m e
      show R.ok (.b (onB (sameS n d m e) false true)) h nx = _
      simp only [binSlow, evBin, evStr, sameS_eq, not_onB]
abbrev OpF := T AV → T AO → Nat → R
noncomputable def k1 (g : T AV → Option AV) (k : AV → T AO → Nat → R) : OpF := fun sl h nx => Option.rec (motive := fun _ => R) .bad (fun v => k v h nx) (g sl)
noncomputable def k2 (g f : T AV → Option AV) (k : AV → AV → T AO → Nat → R) : OpF := fun sl h nx => Option.rec (motive := fun _ => R) .bad (fun u => Option.rec (motive := fun _ => R) .bad (fun v => k u v h nx) (f sl)) (g sl)
noncomputable def okO (o : Option AV) (h : T AO) (nx : Nat) : R := Option.rec (motive := fun _ => R) .bad (fun v => .ok v h nx) o
theorem okO_eq (o : Option AV) (h : T AO) (nx : Nat) : okO o h nx = ofO h nx o := by cases o <;> rfl
noncomputable def getF (l : AVs) (i : Nat) : Option AV :=
  AVs.rec (motive_1 := fun _ => PUnit.{1}) (motive_2 := fun _ => Nat → Option AV) (fun _ => ⟨⟩) (fun _ _ => ⟨⟩) (fun _ _ => ⟨⟩) (fun _ _ => ⟨⟩) ⟨⟩ (fun _ _ _ _ => ⟨⟩) (fun _ _ _ => ⟨⟩) (fun _ _ => ⟨⟩) ⟨⟩ (fun _ _ _ => ⟨⟩) ⟨⟩ (fun _ => ⟨⟩) (fun _ _ _ => ⟨⟩) (fun _ _ _ => ⟨⟩) ⟨⟩ (fun _ => ⟨⟩) ⟨⟩ (fun _ _ => ⟨⟩) (fun _ _ => ⟨⟩) (fun _ => ⟨⟩) (fun _ => none) (fun a _ _ ih n => Nat.rec (motive := fun _ => Option AV) (some a) (fun m _ => ih m) n) l i
theorem getF_eq : ∀ (l : AVs) (i : Nat), getF l i = l.get i
  | .nil, _ => rfl
  | .cons a l, 0 => rfl
  | .cons a l, n + 1 => getF_eq l n
/-- A field of a struct. -/
noncomputable def cFld (P : Program) (t : TypeId) (i : Nat) : Hd (AVs → Option AV) :=
  match P.underlying t with
  | some (.struct fs) => match fs[i]? with
    | some f => match aggTy P f.type with
      | 2 => .mk fun l => getF l f.offset
      | _ => .mk fun l => evPart P f.type l f.offset
    | none => .mk fun _ => none
  | _ => .mk fun _ => none
theorem cFld_eq (t : TypeId) (i : Nat) (l : AVs) : (cFld P t i).un l = evFieldV P t l i := by
  unfold cFld evFieldV
  cases hu : P.underlying t with
  | none => rfl
  | some d =>
    cases d <;> try rfl
    rename_i fs
    simp only
    cases hf : fs[i]? with
    | none => rfl
    | some f =>
      simp only
      split
      · rename_i ha; simp only [Hd.un_mk, getF_eq, evPart, ha]
      · rfl
/-- A text cut. -/
noncomputable def strCut (n d : Nat) (lo hi : Option Nat) : Option AV :=
  onO lo (onO hi (some (.s n (Nat.mod d (Nat.pow 2 (Nat.mul 8 n))))) fun h => onB (Nat.ble h n) (some (.s h (Nat.mod d (Nat.pow 2 (Nat.mul 8 h))))) none)
    fun l => onO hi (onB (Nat.ble l n) (some (.s (Nat.sub n l) (Nat.mod (Nat.shiftRight d (Nat.mul 8 l)) (Nat.pow 2 (Nat.mul 8 (Nat.sub n l)))))) none)
      fun h => onB (Nat.ble l h) (onB (Nat.ble h n) (some (.s (Nat.sub h l) (Nat.mod (Nat.shiftRight d (Nat.mul 8 l)) (Nat.pow 2 (Nat.mul 8 (Nat.sub h l)))))) none) none
theorem ble_refl (n : Nat) : Nat.ble n n = true := by rw [Nat.ble_eq]; exact Nat.le_refl n
theorem ble_zero (n : Nat) : Nat.ble 0 n = true := by rw [Nat.ble_eq]; exact Nat.zero_le n
theorem strCut_eq {t : TypeId} {a b : Nat} (ht : sliceTy P t = (1, a, b)) (n d : Nat) (lo hi : Option Nat) : strCut n d lo hi = evSlice P t (.s n d) lo hi none := by
  have sh : Nat.shiftRight d (Nat.mul 8 0) = d := rfl
  have md : ∀ a b : Nat, Nat.mod a b = a % b := fun _ _ => rfl
  cases lo with
  | none =>
    cases hi with
    | none => simp only [strCut, onO_none, evSlice, ht, evCut, ble_zero, ble_refl, Bool.and_true, cond_true, sh, md]; rfl
    | some h =>
      simp only [strCut, onO_none, onO_some, evSlice, ht, evCut, onB_eq]
      cases hb : Nat.ble h n with
      | false => rfl
      | true => simp only [cond_true, ble_zero, hb, Bool.and_true, sh, md]; rfl
  | some l =>
    cases hi with
    | none =>
      simp only [strCut, onO_none, onO_some, evSlice, ht, evCut, onB_eq]
      cases hb : Nat.ble l n with
      | false => rfl
      | true => simp only [cond_true, hb, ble_refl, Bool.and_true, md]
    | some h =>
      simp only [strCut, onO_some, evSlice, ht, evCut, onB_eq]
      cases hb : Nat.ble l h with
      | false => rfl
      | true =>
        cases hc : Nat.ble h n with
        | false => rfl
        | true => simp only [cond_true, hb, hc, Bool.and_true, md]
noncomputable def cSlc (P : Program) (t : TypeId) : Hd (AV → Option Nat → Option Nat → Option Nat → Option AV) :=
  match sliceTy P t with
  | (1, _, _) => .mk fun x lo hi mx => x.onS (evSlice P t x lo hi mx) fun n d => onO mx (strCut n d lo hi) fun _ => none
  | _ => .mk fun x lo hi mx => evSlice P t x lo hi mx
theorem cSlc_eq (t : TypeId) (x : AV) (lo hi mx : Option Nat) : (cSlc P t).un x lo hi mx = evSlice P t x lo hi mx := by
  unfold cSlc
  split
  · rename_i a b ht
    cases x <;> try rfl
    rename_i n d
    cases mx with
    | none => exact strCut_eq ht n d lo hi
    | some m => simp only [evSlice, ht]; rfl
  · rfl
/-- A number, or a rune, turned. -/
noncomputable def convSlow (P : Program) (s d : TypeId) (v : AV) (h : T AO) (nx : Nat) : R :=
  match evConv P s d v with
  | some r => .ok r h nx
  | none => match sbTy P s d with
    | some _ => evSBytes P h nx s d v
    | none => ofO h nx (evConvM P h s d v)
noncomputable def cConv (P : Program) (s d : TypeId) : Hd (AV → T AO → Nat → R) :=
  match convTy P s d with
  | (1, k) => .mk fun v h nx => v.onI (convSlow P s d v h nx) fun _ n => .ok (.i k (wrapF k n)) h nx
  | _ => .mk fun v h nx => convSlow P s d v h nx
theorem cConv_eq (s d : TypeId) (v : AV) (h : T AO) (nx : Nat) : (cConv P s d).un v h nx = convSlow P s d v h nx := by
  unfold cConv
  split
  · rename_i k hk
    cases v <;> try rfl
    simp only [convSlow, evConv, hk]; rfl
  · rfl
noncomputable def cUn (op : UnOp) : Hd (AV → T AO → Nat → R) :=
  match op with
  | .not => .mk fun v h nx => v.onB .bad fun b => .ok (.b (onB b false true)) h nx
  | op => .mk fun v h nx => ofO h nx (evUn op v)
theorem cUn_eq (op : UnOp) (v : AV) (h : T AO) (nx : Nat) : (cUn op).un v h nx = ofO h nx (evUn op v) := by
  cases op <;> try rfl
  cases v <;> try rfl
  rename_i b; cases b <;> rfl
noncomputable def nextF (h : T AO) (nx : Nat) (x : AV) : R :=
  x.onP .bad fun id off => onB (Nat.beq off 0) (onO (h.get id) .bad fun o => o.onIter .bad fun n d i => onB (Nat.ble (Nat.succ i) n)
    (onB (Nat.ble 128 (Nat.mod (Nat.shiftRight d (Nat.mul 8 i)) 256)) (evNext h nx x true) ((h.put id (.iter n d (Nat.succ i))).seq fun h => .ok (.tup (.cons (.b true) (.cons (.i .i64 (.ofNat i)) (.cons (.i .i32 (.ofNat (Nat.mod (Nat.shiftRight d (Nat.mul 8 i)) 256))) .nil)))) h nx))
    (.ok (.tup (.cons (.b false) .nil)) h nx)) .bad
theorem nextF_eq (h : T AO) (nx : Nat) (x : AV) : nextF h nx x = evNext h nx x true := by
  cases x <;> try rfl
  rename_i id off
  cases off with
  | succ off => rfl
  | zero =>
    show onO (h.get id) _ _ = _
    cases e : h.get id with
    | none => simp only [evNext, e]; rfl
    | some o =>
      cases o <;> try (simp only [evNext, e]; rfl; done)
      rename_i n d i
      show onB (Nat.ble (Nat.succ i) n) _ _ = _
      have e1 : evNext h nx (.p id 0) true = (bif Nat.ble (Nat.succ i) n then (match decN n d i with | (c, k) => (h.put id (.iter n d (Nat.add i k))).seq fun h => R.ok (.tup (.cons (.b true) (.cons (.i .i64 (.ofNat i)) (.cons (.i .i32 (.ofNat c)) .nil)))) h nx) else .ok (.tup (.cons (.b false) .nil)) h nx) := by
        simp only [evNext, e]
      rw [onB_eq]
      cases hb : Nat.ble (Nat.succ i) n with
      | false => rw [e1, hb]; rfl
      | true =>
        rw [cond_true, onB_eq]
        cases hc : Nat.ble 128 (Nat.mod (Nat.shiftRight d (Nat.mul 8 i)) 256) with
        | true => rfl
        | false =>
          rw [e1, hb, cond_true, cond_false]
          have hd : decN n d i = (byteAt d i, 1) := by
            have : Nat.ble 128 (byteAt d i) = false := hc
            simp only [decN, this, cond_false]
          rw [hd]; rfl
/-- An operation that enters no function. -/
noncomputable def cM (P : Program) (op : Op) : Hd OpF :=
  match op with
  | .move x => (cX x).bind fun g => .mk fun sl h nx => Option.rec (motive := fun _ => R) .bad (fun v => .ok v h nx) (g sl)
  | .assign x => (cX x).bind fun g => .mk fun sl h nx => Option.rec (motive := fun _ => R) .bad (fun v => .ok v h nx) (g sl)
  | .load t x => (cX x).bind fun g => (cLd P t).bind fun ld => .mk (k1 g fun v h nx => okO (ldF ld h v) h nx)
  | .store t x y => (cX x).bind fun g => (cX y).bind fun f => (cSt P t).bind fun st => .mk (k2 g f fun u v h nx => st h nx u v)
  | .binOp op t x y _ => (cX x).bind fun g => (cX y).bind fun f => (cBin P op t (isC x || isC y)).bind fun b => .mk (k2 g f fun u v h nx => b u v h nx)
  | .fieldAddr t x i => (cX x).bind fun g => match fieldOff P t i with
    | some n => .mk (k1 g fun v h nx => v.onP .bad fun id off => .ok (.p id (Nat.add off n)) h nx)
    | none => .mk fun _ _ _ => .bad
  | .field t x i => (cX x).bind fun g => (cFld P t i).bind fun f => .mk (k1 g fun v h nx => v.onAgg .bad fun l => okO (f l) h nx)
  | .indexAddr t x i => (cX x).bind fun g => (cX i).bind fun f => (cIdx P t).bind fun ix => .mk (k2 g f fun u v h nx => v.onI .bad fun _ n => okO (ix u n) h nx)
  | .index t x i => (cX x).bind fun g => (cX i).bind fun f => (cIx P t).bind fun ix => .mk (k2 g f fun u v h nx => okO (ix u v) h nx)
  | .extract x i => (cX x).bind fun g => .mk (k1 g fun v h nx => v.onTup .bad fun l => okO (getF l i) h nx)
  | .pick c x y => (cX c).bind fun gc => (cX x).bind fun gx => (cX y).bind fun gy => .mk fun sl h nx => onO (gc sl) .bad fun v => v.onB .bad fun b => onB b (okO (gx sl) h nx) (okO (gy sl) h nx)
  | .nilCheck x => (cX x).bind fun g => .mk (k1 g fun v h nx => v.isPt .bad (.ok v h nx))
  | .unOp op _ x => (cX x).bind fun g => (cUn op).bind fun u => .mk (k1 g fun v h nx => u v h nx)
  | .convert s d x => (cX x).bind fun g => (cConv P s d).bind fun u => .mk (k1 g fun v h nx => u v h nx)
  | .makeInterface t x => (cX x).bind fun g => onB (P.concrete t) (.mk (k1 g fun v h nx => .ok (.ifc t v) h nx)) (.mk fun _ _ _ => .bad)
  | .slice t x lo hi mx => (cX x).bind fun g => (cB lo).bind fun gl => (cB hi).bind fun gh => (cB mx).bind fun gm => (cSlc P t).bind fun s => .mk fun sl h nx => onO (g sl) .bad fun v => onO (gl sl) .bad fun l => onO (gh sl) .bad fun hh => onO (gm sl) .bad fun m => okO (s v l hh m) h nx
  | .makeSlice t l c => (cX l).bind fun g => (cX c).bind fun f => .mk (k2 g f fun u v h nx => evMake P h nx t u v)
  | .range t x => (cX x).bind fun g => .mk (k1 g fun v h nx => evRange P h nx t v)
  | .next x b => (cX x).bind fun g => onB b (.mk (k1 g fun v h nx => nextF h nx v)) (.mk (k1 g fun v h nx => evNext h nx v false))
  | .alloc t => .mk fun _ h nx => evAlloc P h nx t
  | .box t x => (cX x).bind fun g => .mk (k1 g fun v h nx => evBox h nx t v)
  | .typeAssert x _ t ok => (cX x).bind fun g => .mk (k1 g fun v h nx => okO (evTA P t ok v) h nx)
  | .build t ps => (cParts ps.toList).bind fun g => .mk fun sl h nx => onO (g sl) .bad fun l => okO (evBuild P t l) h nx
  | .buildSlice t n ps => (cParts ps.toList).bind fun g => .mk fun sl h nx => onO (g sl) .bad fun l => evRow P h nx t n l
  | .call c => match c.callee with
    | .builtin b => match b, c.argTypes.toList, c.args.toList with
      | .len, [t], [x] => (cX x).bind fun g => (cLenH P t).bind fun f => .mk (k1 g fun v h nx => okO (f h v) h nx)
      | b, ts, l => (cXs l).bind fun g => .mk fun sl h nx => onO (g sl) .bad fun l => evBuiltin P h nx b ts l
    | _ => .mk fun _ _ _ => .bad
  | op => .mk fun sl h nx => evM P sl h nx op
theorem cM_eq (op : Op) (sl : T AV) (h : T AO) (nx : Nat) : (cM P op).un sl h nx = evM P sl h nx op := by
  cases op <;> try rfl
  case move x => simp only [cM, Hd.bind_eq, Hd.un_mk, k1, cX_eq, evM, evP]; cases evX sl x <;> rfl
  case assign x => simp only [cM, Hd.bind_eq, Hd.un_mk, k1, cX_eq, evM, evP]; cases evX sl x <;> rfl
  case load t x =>
    simp only [cM, Hd.bind_eq, Hd.un_mk, k1, cX_eq, evM, okO_eq, ldF_eq]
    cases evX sl x <;> rfl
  case store t x y =>
    simp only [cM, Hd.bind_eq, Hd.un_mk, k2, cX_eq, evM, cSt_eq]
    cases evX sl x with
    | none => rfl
    | some u => cases evX sl y <;> rfl
  case binOp op t x y s =>
    simp only [cM, Hd.bind_eq, Hd.un_mk, k2, cX_eq, evM, cBin_eq]
    cases evX sl x with
    | none => rfl
    | some u => cases evX sl y <;> rfl
  case fieldAddr t x i =>
    simp only [cM, Hd.bind_eq, evM, evP]
    cases e : fieldOff P t i with
    | none => cases evX sl x with
      | none => rfl
      | some v => cases v <;> rfl
    | some n =>
      simp only [Hd.un_mk, k1, cX_eq]
      cases evX sl x with
      | none => rfl
      | some v => cases v <;> rfl
  case field t x i =>
    simp only [cM, Hd.bind_eq, Hd.un_mk, k1, cX_eq, evM, evP, okO_eq, cFld_eq]
    cases evX sl x with
    | none => rfl
    | some v => cases v <;> rfl
  case indexAddr t x i =>
    simp only [cM, Hd.bind_eq, Hd.un_mk, k2, cX_eq, evM, evP, okO_eq, cIdx_eq]
    cases evX sl x with
    | none => rfl
    | some u => cases evX sl i with
      | none => rfl
      | some v => cases v <;> rfl
  case index t x i =>
    simp only [cM, Hd.bind_eq, Hd.un_mk, k2, cX_eq, evM, evP, okO_eq, cIx_eq]
    cases evX sl x with
    | none => rfl
    | some u => cases evX sl i <;> rfl
  case extract x i =>
    simp only [cM, Hd.bind_eq, Hd.un_mk, k1, cX_eq, evM, evP, okO_eq, getF_eq]
    cases evX sl x with
    | none => rfl
    | some v => cases v <;> rfl
  case pick c x y =>
    simp only [cM, Hd.bind_eq, Hd.un_mk, cX_eq, evM, evP, okO_eq]
    cases evX sl c with
    | none => rfl
    | some v =>
      cases v <;> try rfl
      rename_i b
      cases b <;> rfl
  case nilCheck x =>
    simp only [cM, Hd.bind_eq, Hd.un_mk, k1, cX_eq, evM, evP]
    cases evX sl x with
    | none => rfl
    | some v => cases v <;> rfl
  case unOp op t x =>
    simp only [cM, Hd.bind_eq, Hd.un_mk, k1, cX_eq, evM, evP, cUn_eq]
    cases evX sl x <;> rfl
  case convert s d x =>
    simp only [cM, Hd.bind_eq, Hd.un_mk, k1, cX_eq, evM, cConv_eq, convSlow]
    cases evX sl x <;> rfl
  case makeInterface t x =>
    simp only [cM, Hd.bind_eq, onB_eq, evM, evP]
    cases P.concrete t with
    | false => rfl
    | true =>
      simp only [cond_true, Hd.un_mk, k1, cX_eq]
      cases evX sl x <;> rfl
  case slice t x lo hi mx =>
    simp only [cM, Hd.bind_eq, Hd.un_mk, cX_eq, cB_eq, evM, evP, okO_eq, cSlc_eq]
    cases evX sl x with
    | none => rfl
    | some v =>
      cases evB sl lo with
      | none => rfl
      | some l =>
        cases evB sl hi with
        | none => rfl
        | some hh => cases evB sl mx <;> rfl
  case makeSlice t l c =>
    simp only [cM, Hd.bind_eq, Hd.un_mk, k2, cX_eq, evM]
    cases evX sl l with
    | none => rfl
    | some u => cases evX sl c <;> rfl
  case range t x => simp only [cM, Hd.bind_eq, Hd.un_mk, k1, cX_eq, evM]; cases evX sl x <;> rfl
  case next x b =>
    simp only [cM, Hd.bind_eq, onB_eq, evM]
    cases b with
    | true => simp only [cond_true, Hd.un_mk, k1, cX_eq, nextF_eq]; cases evX sl x <;> rfl
    | false => simp only [cond_false, Hd.un_mk, k1, cX_eq]; cases evX sl x <;> rfl
  case box t x => simp only [cM, Hd.bind_eq, Hd.un_mk, k1, cX_eq, evM]; cases evX sl x <;> rfl
  case typeAssert x xt t ok =>
    simp only [cM, Hd.bind_eq, Hd.un_mk, k1, cX_eq, evM, evP, okO_eq]
    cases evX sl x <;> rfl
  case build t ps =>
    simp only [cM, Hd.bind_eq, Hd.un_mk, cParts_eq, evM, evP, okO_eq]
    cases evParts sl ps.toList <;> rfl
  case buildSlice t n ps =>
    simp only [cM, Hd.bind_eq, Hd.un_mk, cParts_eq, evM]
    cases evParts sl ps.toList <;> rfl
  case call c =>
    simp only [cM, evM]
    cases hc : c.callee with
    | value f => rfl
    | invoke r m => rfl
    | builtin b =>
      simp only
      split
      · rename_i t x h1 h2
        simp only [h1, h2, Hd.bind_eq, Hd.un_mk, k1, cX_eq, evXs, okO_eq, cLenH_eq]
        cases evX sl x <;> rfl
      · simp only [Hd.bind_eq, Hd.un_mk, cXs_eq]
        cases evXs sl c.args.toList <;> rfl
end Go.Proofs.YteogphbdpjnjoaaGreat
namespace Go.Proofs.YteogphbdpjnjoaaGreat
open Go.RowKit
variable {P : Program} {N : Nat} {G : FuncId → Bool} (hG : ∀ g, G g = true → fnOk P g = true)

/- What an operation sees of a frame: its operands. -/
theorem evXs_congr {sl sl' : T AV} : ∀ {l : List Operand}, (∀ x ∈ l, evX sl' x = evX sl x) → evXs sl' l = evXs sl l
  | [], _ => rfl
  | x :: l, H => by simp only [evXs]; rw [H x (List.mem_cons_self ..), evXs_congr fun y hy => H y (List.mem_cons_of_mem _ hy)]
theorem evParts_congr {sl sl' : T AV} : ∀ {l : List (Nat × Operand)}, (∀ x ∈ l.map (·.2), evX sl' x = evX sl x) → evParts sl' l = evParts sl l
  | [], _ => rfl
  | (i, x) :: l, H => by simp only [evParts]; rw [H x (by simp), evParts_congr fun y hy => H y (by simp at hy ⊢; exact .inr hy)]
theorem evB_congr {sl sl' : T AV} {x : Option Operand} (H : ∀ y ∈ x.toList, evX sl' y = evX sl y) : evB sl' x = evB sl x := by
  cases x with
  | none => rfl
  | some y => simp only [evB]; rw [H y (by simp)]
theorem evP_congr {sl sl' : T AV} {op : Op} (H : ∀ x ∈ op.operands.toList, evX sl' x = evX sl x) : evP P sl' op = evP P sl op := by
  cases op <;> simp only [evP] <;> simp only [Op.operands, List.mem_cons, List.not_mem_nil, or_false, forall_eq_or_imp, forall_eq] at H
  case move x => exact H
  case assign x => exact H
  case pick c x y => rw [H.1, H.2.1, H.2.2]
  case nilCheck x => rw [H]
  case binOp op t x y _ => rw [H.1, H.2]
  case unOp op t x => rw [H]
  case convert s d x => rw [H]
  case makeInterface t x => rw [H]
  case makeFunc f first cap =>
    cases f <;> simp only [evP]
    rw [evXs_congr fun x hx => H x (by simp at hx ⊢; exact .inr hx)]
  case slice t x lo hi mx =>
    rw [H x (by simp), evB_congr (x := lo) fun y hy => H y (by simp at hy ⊢; simp [hy]), evB_congr (x := hi) fun y hy => H y (by simp at hy ⊢; simp [hy]), evB_congr (x := mx) fun y hy => H y (by simp at hy ⊢; simp [hy])]
  case fieldAddr t x i => rw [H]
  case field t x i => rw [H]
  case indexAddr t x i => rw [H.1, H.2]
  case index t x i => rw [H.1, H.2]
  case extract x i => rw [H]
  case typeAssert x _ t ok => rw [H]
  case build t ps => rw [evParts_congr fun x hx => H x (by simpa using hx)]
theorem evM_congr {sl sl' : T AV} {h : T AO} {nx : Nat} {op : Op} (H : ∀ x ∈ op.operands.toList, evX sl' x = evX sl x) : evM P sl' h nx op = evM P sl h nx op := by
  have hp := evP_congr (P := P) H
  cases op <;> simp only [evM] <;> first | rfl | rw [hp] | skip
  all_goals simp only [Op.operands, List.mem_cons, List.not_mem_nil, or_false, forall_eq_or_imp, forall_eq] at H
  case box t x => rw [H]
  case buildSlice t n ps => rw [evParts_congr fun x hx => H x (by simpa using hx)]
  case load t x => rw [H]
  case store t x y => rw [H.1, H.2]
  case binOp op t x y _ => rw [H.1, H.2]
  case convert s d x => rw [H]
  case makeSlice t l c => rw [H.1, H.2]
  case range t x => rw [H]
  case next x b => rw [H]
  case makeMap t r =>
    cases r with
    | none => rfl
    | some x => simp only; rw [H x (by simp)]
  case lookup t x k ok => rw [H.1, H.2]
  case mapUpdate t m k x => rw [H.1, H.2.1, H.2.2]
  case insert t m k x => rw [H.1, H.2.1, H.2.2]
  case call c =>
    cases hc : c.callee with
    | value f => rfl
    | invoke r m => rfl
    | builtin b =>
      simp only
      rw [evXs_congr fun x hx => H x (by simp only [Call.operands, hc]; simpa using hx)]
theorem evOper_congr {X call : Caller} {sl sl' : T AV} {h : T AO} {nx : Nat} {op : Op} (H : ∀ x ∈ op.operands.toList, evX sl' x = evX sl x) : evOper P X call sl' h nx op = evOper P X call sl h nx op := by
  have hm := evM_congr (P := P) (h := h) (nx := nx) H
  cases op <;> simp only [evOper] <;> first | exact hm | skip
  rename_i c
  cases hc : c.callee with
  | value f =>
    simp only [Op.operands, Call.operands, hc] at H
    simp only
    rw [H f (by simp), evXs_congr fun x hx => H x (by simp; exact .inr (by simpa using hx))]
  | invoke r m => exact hm
  | builtin b => exact hm
theorem rst_in {sl : T AV} : ∀ {l : List Nat} {t : Nat}, t ∈ l → (rst sl l).get t = sl.get t := by
  intro l
  induction l with
  | nil => intro t h; cases h
  | cons u l ih =>
    intro t h
    simp only [rst]
    cases e : sl.get u with
    | none =>
      simp only
      rcases List.mem_cons.1 h with rfl | h
      · cases e2 : (rst sl l).get t with
        | none => exact e.symm
        | some x => rw [(rst_get _ e2).2] at e; cases e
      · exact ih h
    | some v =>
      simp only
      rw [T.get_put]
      split
      · rename_i hh; subst hh; exact e.symm
      · rename_i hh
        rcases List.mem_cons.1 h with h | h
        · exact absurd h hh
        · exact ih h
theorem rst_ops (sl : T AV) (op : Op) : ∀ x ∈ op.operands.toList, evX (rst sl (opTmps op)) x = evX sl x := by
  intro x hx
  cases x with
  | tmp t =>
    refine rst_in ?_
    unfold opTmps
    rw [List.mem_filterMap]
    exact ⟨_, hx, rfl⟩
  | _ => rfl
theorem app_nil : ∀ l : AVs, l.app .nil = l
  | .nil => rfl
  | .cons a l => by simp only [AVs.app, app_nil l]
abbrev OpC := Caller → T AV → T AO → Nat → R
noncomputable def cOper (P : Program) (X : Caller) (G : FuncId → Bool) (op : Op) : Hd OpC :=
  match op with
  | .call c => match c.callee with
    | .value (.func g) => (cXs c.args.toList).bind fun ga => onB (G g) (.mk fun call sl h nx => onO (ga sl) .bad fun l => call (.fn g) l h nx) (onB (fnOk P g) (.mk fun call sl h nx => onO (ga sl) .bad fun l => call (.fn g) l h nx) (.mk fun _ sl h nx => onO (ga sl) .bad fun l => X (.fn g) l h nx))
    | .value f => (cX f).bind fun gf => (cXs c.args.toList).bind fun ga => .mk fun call sl h nx => onO (gf sl) .bad fun v => onO (ga sl) .bad fun l => v.onFn .bad (fun g caps => onB (G g) (call (.fn g) (l.app caps) h nx) (onB (fnOk P g) (call (.fn g) (l.app caps) h nx) (X (.fn g) (l.app caps) h nx))) (fun id => call (.yl id) l h nx)
    | _ => (cM P op).bind fun f => .mk fun _ => f
  | op => (cM P op).bind fun f => .mk fun _ => f
include hG in
theorem cOper_eq (X call : Caller) (op : Op) (sl : T AV) (h : T AO) (nx : Nat) : (cOper P X G op).un call sl h nx = evOper P X call sl h nx op := by
  cases op <;> try (simp only [cOper, evOper, Hd.bind_eq, Hd.un_mk, cM_eq]; done)
  rename_i c
  simp only [cOper, evOper]
  have key : ∀ {g : FuncId} {l : AVs}, onB (G g) (call (.fn g) l h nx) (onB (fnOk P g) (call (.fn g) l h nx) (X (.fn g) l h nx)) = bif fnOk P g then call (.fn g) l h nx else X (.fn g) l h nx := by
    intro g l
    cases hg : G g with
    | true => rw [hG g hg]; rfl
    | false => show onB (fnOk P g) _ _ = _; exact onB_eq ..
  cases hc : c.callee with
  | value f =>
    cases f with
    | func g =>
      simp only [Hd.bind_eq, evX]
      have e : ∀ (A B : Hd OpC), (onB (G g) A (onB (fnOk P g) A B)).un call sl h nx = onB (G g) (A.un call sl h nx) (onB (fnOk P g) (A.un call sl h nx) (B.un call sl h nx)) := by
        intro A B; cases G g <;> cases fnOk P g <;> rfl
      rw [e]
      simp only [Hd.un_mk, cXs_eq]
      cases evXs sl c.args.toList with
      | none => cases G g <;> cases fnOk P g <;> rfl
      | some l =>
        simp only [onO_some, app_nil]
        exact key
    | _ =>
      simp only [Hd.bind_eq, Hd.un_mk, cXs_eq, cX_eq]
      cases evX sl _ with
      | none => rfl
      | some v =>
        cases evXs sl c.args.toList with
        | none => cases v <;> rfl
        | some l => cases v <;> first | rfl | exact key
  | invoke r m => simp only [Hd.bind_eq, Hd.un_mk, cM_eq]
  | builtin b => simp only [Hd.bind_eq, Hd.un_mk, cM_eq]
noncomputable def cPut (N : Nat) (dst : Option Nat) : Hd (T AV → AV → (T AV → RSv) → RSv) :=
  match dst with
  | none => .mk fun sl _ k => k sl
  | some d => onB (Nat.ble (Nat.succ d) N) ((T.putK d).bind fun p => .mk fun sl v k => p sl (some v) k) (.mk fun _ _ _ => .bad)
theorem cPut_eq (dst : Option Nat) (sl : T AV) (v : AV) (k : T AV → RSv) : (cPut N dst).un sl v k = match putD N dst v sl with | some sl => k sl | none => .bad := by
  cases dst with
  | none => rfl
  | some d =>
    simp only [cPut, putD, onB_eq]
    cases Nat.ble (Nat.succ d) N with
    | false => rfl
    | true => simp only [cond_true, Hd.bind_eq, Hd.un_mk, T.putK_eq, T.seq_eq, T.put, T.put_def]
/-- Is an operation to be done? -/
noncomputable def cW (ops : Array Oper) (o : Oper) : Hd (T AV → Option Bool) :=
  match o.guard with
  | none => .mk fun _ => some true
  | some (j, want) => match (ops[j]?).bind (·.dst) with
    | some t => (T.getB t).bind fun g => onB want (.mk fun sl => onO (g sl) none fun v => v.onBT none (fun x => some x) fun _ => some false) (.mk fun sl => onO (g sl) none fun v => v.onBT none (fun x => some (onB x false true)) fun _ => some false)
    | none => .mk fun _ => none
theorem cW_eq (ops : Array Oper) (o : Oper) (sl : T AV) : (cW ops o).un sl = evWanted ops o sl := by
  unfold cW evWanted
  cases o.guard with
  | none => rfl
  | some jw =>
    obtain ⟨j, want⟩ := jw
    simp only
    cases (ops[j]?).bind (·.dst) with
    | none => rfl
    | some t =>
      simp only [Hd.bind_eq, T.get_def]
      cases want with
      | true =>
        show onO ((T.getB t).un sl) none _ = _
        cases (T.getB t).un sl with
        | none => rfl
        | some v =>
          cases v <;> try rfl
          rename_i b; cases b <;> rfl
      | false =>
        show onO ((T.getB t).un sl) none _ = _
        cases (T.getB t).un sl with
        | none => rfl
        | some v =>
          cases v <;> try rfl
          rename_i b; cases b <;> rfl
noncomputable def cOps (P : Program) (X : Caller) (G : FuncId → Bool) (N : Nat) (ops : Array Oper) : List Oper → Hd (Caller → T AV → T AO → Nat → RSv)
  | [] => .mk fun _ sl h nx => .ok sl h nx
  | o :: rest => (cOper P X G o.op).bind fun f => (cPut N o.dst).bind fun p => (cOps P X G N ops rest).bind fun k => match o.guard with
    | none => .mk fun call sl h nx => R.rec (motive := fun _ => RSv) (fun v h1 nx1 => Bool.rec (motive := fun _ => RSv) .bad (p sl v fun sl => k call sl h1 nx1) (Nat.ble nx nx1)) .bad (f call sl h nx)
    | some _ => (cW ops o).bind fun w => .mk fun call sl h nx => onO (w sl) .bad fun b => onB b ((f call sl h nx).on .bad fun v h1 nx1 => onB (Nat.ble nx nx1) (p sl v fun sl => k call sl h1 nx1) .bad) (p sl (.tup .nil) fun sl => k call sl h nx)
include hG in
theorem cOps_eq (X call : Caller) (ops : Array Oper) : ∀ (l : List Oper) (sl : T AV) (h : T AO) (nx : Nat), (cOps P X G N ops l).un call sl h nx = evOps P X call N ops l sl h nx
  | [], _, _, _ => rfl
  | o :: rest, sl, h, nx => by
    have go : ((cOper P X G o.op).un call sl h nx).on RSv.bad (fun v h1 nx1 => onB (Nat.ble nx nx1) ((cPut N o.dst).un sl v fun sl => (cOps P X G N ops rest).un call sl h1 nx1) .bad) =
        (match evOper P X call sl h nx o.op with
          | .ok v h1 nx1 => bif Nat.ble nx nx1 then match putD N o.dst v sl with
            | some sl => evOps P X call N ops rest sl h1 nx1
            | none => .bad else .bad
          | .bad => .bad) := by
      rw [cOper_eq hG]
      cases evOper P X call sl h nx o.op with
      | bad => rfl
      | ok v h1 nx1 =>
        simp only [R.on, onB_eq]
        rw [cPut_eq]
        cases Nat.ble nx nx1 with
        | false => rfl
        | true =>
          simp only [cond_true]
          cases putD N o.dst v sl with
          | none => rfl
          | some sl' => exact cOps_eq X call ops rest _ _ _
    have no : ((cPut N o.dst).un sl (.tup .nil) fun sl => (cOps P X G N ops rest).un call sl h nx) = (match putD N o.dst (.tup .nil) sl with | some sl => evOps P X call N ops rest sl h nx | none => .bad) := by
      rw [cPut_eq]
      cases putD N o.dst (.tup .nil) sl with
      | none => rfl
      | some sl' => exact cOps_eq X call ops rest _ _ _
    simp only [cOps, evOps, Hd.bind_eq]
    cases hg : o.guard with
    | none =>
      have hw : evWanted ops o sl = some true := by unfold evWanted; rw [hg]
      simp only [Hd.un_mk, hw]
      exact go
    | some jw =>
      simp only [Hd.bind_eq, Hd.un_mk, cW_eq]
      cases evWanted ops o sl with
      | none => rfl
      | some b =>
        cases b with
        | true => exact go
        | false => exact no
/- The plan of a region that draws its order. -/
noncomputable def noneK (nx : Nat) (Ks : List (Nat × T AO)) : Bool := List.rec (motive := fun _ => Bool) true (fun K _ ih => onO (K.2.get nx) ih fun _ => false) Ks
theorem noneK_eq (nx : Nat) : ∀ Ks : List (Nat × T AO), noneK nx Ks = Ks.all fun K => (K.2.get nx).isNone
  | [] => rfl
  | K :: l => by
    show onO (K.2.get nx) (noneK nx l) (fun _ => false) = _
    rw [noneK_eq nx l, List.all_cons]
    cases K.2.get nx <;> rfl
noncomputable def ldK (ops : Array Oper) (i : Nat) (ld : T AV → Nat → Option AV) (a : AV) (Ks : List (Nat × T AO)) : Option AV :=
  List.rec (motive := fun _ => Option AV) none (fun K rest ih => onO (ldF ld K.2 a) none fun v => List.rec (motive := fun _ => Option AV) (some v) (fun _ _ _ => onB (preB ops K.1 i) (some v) (onO ih none fun v' => onB (eqV v v') (some v) none)) rest) Ks
theorem ldK_eq (ops : Array Oper) (i : Nat) (t : TypeId) (x : Operand) (sl : T AV) {a : AV} (ha : evX sl x = some a) : ∀ Ks : List (Nat × T AO), ldK ops i (cLd P t).un a Ks = ldAll P ops i sl (.load t x) Ks
  | [] => rfl
  | (j, K) :: rest => by
    show onO (ldF (cLd P t).un K a) none (fun v => List.rec (motive := fun _ => Option AV) (some v) (fun _ _ _ => onB (preB ops j i) (some v) (onO (ldK ops i (cLd P t).un a rest) none fun v' => onB (eqV v v') (some v) none)) rest) = _
    rw [ldF_eq, ldK_eq ops i t x sl ha rest]
    simp only [ldAll, evRd, ha]
    cases evLoad P K t a with
    | none => rfl
    | some v =>
      cases rest with
      | nil => rfl
      | cons K2 r =>
        simp only [onO_some, onB_eq]
        cases preB ops j i with
        | true => rfl
        | false =>
          simp only [cond_false]
          cases ldAll P ops i sl (.load t x) (K2 :: r) <;> rfl
theorem evRd_congr {sl sl' : T AV} {h : T AO} {op : Op} (H : ∀ x ∈ op.operands.toList, evX sl' x = evX sl x) : evRd P sl' h op = evRd P sl h op := by
  cases op <;> try rfl
  all_goals simp only [Op.operands, List.mem_cons, List.not_mem_nil, or_false, forall_eq_or_imp, forall_eq] at H
  case load t x => simp only [evRd]; rw [H]
  case lookup t x k ok => simp only [evRd]; rw [H.1, H.2]
  case call c =>
    simp only [evRd]
    cases hc : c.callee with
    | value f => rfl
    | invoke r m => rfl
    | builtin b =>
      cases b <;> try rfl
      simp only
      rcases h1 : c.argTypes.toList with _ | ⟨t, _ | ⟨t2, l⟩⟩ <;> try rfl
      rcases h2 : c.args.toList with _ | ⟨x, _ | ⟨x2, m⟩⟩ <;> try rfl
      simp only
      rw [H x (by simp only [Call.operands, hc]; simp [h2])]
theorem ldAll_congr {ops : Array Oper} {i : Nat} {sl sl' : T AV} {op : Op} (H : ∀ x ∈ op.operands.toList, evX sl' x = evX sl x) : ∀ l, ldAll P ops i sl' op l = ldAll P ops i sl op l
  | [] => rfl
  | (j, K) :: rest => by simp only [ldAll]; rw [evRd_congr H, ldAll_congr H rest]
theorem ldPend_congr {ops : Array Oper} {i : Nat} {sl sl' : T AV} {op : Op} {id : Nat} (H : ∀ x ∈ op.operands.toList, evX sl' x = evX sl x) : ∀ l, ldPend P ops i sl' op id l = ldPend P ops i sl op id l
  | [] => rfl
  | q :: rest => by simp only [ldPend]; rw [ldPend_congr H rest]; simp only [evRd_congr H]
theorem ldId_congr {sl sl' : T AV} {op : Op} (H : ∀ x ∈ op.operands.toList, evX sl' x = evX sl x) : ldId sl' op = ldId sl op := by
  cases op <;> try rfl
  all_goals simp only [Op.operands, List.mem_cons, List.not_mem_nil, or_false, forall_eq_or_imp, forall_eq] at H
  case load t x => simp only [ldId]; rw [H]
theorem ldAny_congr {ops : Array Oper} {i : Nat} {sl sl' : T AV} {op : Op} {Ks : List (Nat × T AO)} {pend : List Rec} (H : ∀ x ∈ op.operands.toList, evX sl' x = evX sl x) : ldAny P ops i sl' op Ks pend = ldAny P ops i sl op Ks pend := by
  unfold ldAny; rw [ldAll_congr H, ldId_congr H]
  simp only [ldPend_congr H]
noncomputable def lnK (ops : Array Oper) (i : Nat) (f : T AO → AV → Option AV) (a : AV) (Ks : List (Nat × T AO)) : Option AV :=
  List.rec (motive := fun _ => Option AV) none (fun K rest ih => onO (f K.2 a) none fun v => List.rec (motive := fun _ => Option AV) (some v) (fun _ _ _ => onB (preB ops K.1 i) (some v) (onO ih none fun v' => onB (eqV v v') (some v) none)) rest) Ks
theorem lnK_eq (ops : Array Oper) (i : Nat) (f : T AO → AV → Option AV) (sl : T AV) (a : AV) (op : Op) (hf : ∀ K, evRd P sl K op = f K a) : ∀ Ks : List (Nat × T AO), lnK ops i f a Ks = ldAll P ops i sl op Ks
  | [] => rfl
  | (j, K) :: rest => by
    show onO (f K a) none (fun v => List.rec (motive := fun _ => Option AV) (some v) (fun _ _ _ => onB (preB ops j i) (some v) (onO (lnK ops i f a rest) none fun v' => onB (eqV v v') (some v) none)) rest) = _
    rw [lnK_eq ops i f sl a op hf rest]
    simp only [ldAll, hf]
    cases f K a with
    | none => rfl
    | some v =>
      cases rest with
      | nil => rfl
      | cons K2 r =>
        simp only [onO_some, onB_eq]
        cases preB ops j i with
        | true => rfl
        | false =>
          simp only [cond_false]
          cases ldAll P ops i sl op (K2 :: r) <;> rfl
/-- A length's type and what it is asked of. -/
def lenOp (op : Op) : Option (TypeId × Operand) :=
  match op with
  | .call c => match c.callee with
    | .builtin .len => match c.argTypes.toList, c.args.toList with
      | [t], [x] => some (t, x)
      | _, _ => none
    | _ => none
  | _ => none
theorem lenOp_is {op : Op} {t : TypeId} {x : Operand} (h : lenOp op = some (t, x)) (sl : T AV) : ldId sl op = none ∧ ∀ K, evRd P sl K op = match evX sl x with | some v => evLenH P K t v | none => none := by
  unfold lenOp at h
  split at h
  · rename_i c
    split at h
    · rename_i hb
      split at h
      · rename_i t' x' h1 h2
        cases h
        exact ⟨rfl, fun K => by simp only [evRd, hb, h1, h2]; cases evX sl x <;> rfl⟩
      · cases h
    · cases h
  · cases h
abbrev StK := T AV → T AO → Nat → List (Nat × T AO) → List Rec → RSv
noncomputable def cStep1 (P : Program) (X : Caller) (G : FuncId → Bool) (N : Nat) (ops : Array Oper) (i : Nat) : Hd (Caller → T AV → T AO → Nat → List (Nat × T AO) → List Rec → StK → RSv) :=
  match kindOf (opO ops i) with
  | 0 => (cM P (opO ops i)).bind fun f => (cPut N (opD ops i)).bind fun p => .mk fun _ sl st nx Ks pd k => R.rec (motive := fun _ => RSv) (fun v h1 nx1 => p sl v fun sl1 =>
      Bool.rec (motive := fun _ => RSv) .bad (Bool.rec (motive := fun _ => RSv) (k sl1 st nx1 Ks pd) (onO (h1.get nx) (k sl1 st nx1 Ks pd) fun b => onB (noneK nx Ks) ((st.put nx b).seq fun st1 => k sl1 st1 nx1 Ks (⟨i, v, nx, nx1, some b, st, st, rst sl (opTmps (opO ops i)), true⟩ :: pd)) .bad) (Nat.beq nx1 (Nat.succ nx))) (Nat.ble nx nx1)) .bad (f sl .nil nx)
  | 1 => (cPut N (opD ops i)).bind fun p => match opO ops i with
    | .load t x => (cX x).bind fun g => (cLd P t).bind fun ld => .mk fun _ sl st nx Ks pd k => onO (g sl) .bad fun a => onO (ldK ops i ld a Ks) (onO (ldId sl (.load t x)) .bad fun id => onO (ldPend P ops i sl (.load t x) id pd) .bad fun v => p sl v fun sl1 => k sl1 st nx Ks pd) fun v => p sl v fun sl1 => k sl1 st nx Ks pd
    | op => match lenOp op with
      | some (t, x) => (cX x).bind fun g => (cLenH P t).bind fun f => .mk fun _ sl st nx Ks pd k => onO (g sl) .bad fun a => onO (lnK ops i f a Ks) .bad fun v => p sl v fun sl1 => k sl1 st nx Ks pd
      | none => .mk fun _ sl st nx Ks pd k => onO (ldAny P ops i sl op Ks pd) .bad fun v => p sl v fun sl1 => k sl1 st nx Ks pd
  | _ => (cOper P X G (opO ops i)).bind fun f => (cPut N (opD ops i)).bind fun p => .mk fun call sl st nx Ks _ k => (f call sl st nx).on .bad fun v h1 nx1 => p sl v fun sl1 => onB (Nat.ble nx nx1) (k sl1 h1 nx1 ((i, h1) :: Ks) []) .bad
include hG in
theorem cStep1_eq (X call : Caller) (ops : Array Oper) (i : Nat) (sl : T AV) (st : T AO) (nx : Nat) (Ks : List (Nat × T AO)) (pend : List Rec) (k : StK) :
    (cStep1 P X G N ops i).un call sl st nx Ks pend k = match evStep1 P X call N ops i ⟨sl, st, nx, Ks, pend⟩ with | some (_, s) => k s.sl s.st s.nx s.Ks s.pend | none => .bad := by
  unfold cStep1 evStep1
  generalize kindOf (opO ops i) = kd
  match kd with
  | 0 =>
    simp only [Hd.bind_eq, Hd.un_mk, cM_eq]
    rw [evM_congr (sl' := rst sl (opTmps (opO ops i))) (rst_ops sl _)]
    have hn : (.nil : T AO) = T.nil := rfl
    cases evM P sl T.nil nx (opO ops i) with
    | bad => rfl
    | ok v h1 nx1 =>
      dsimp only
      rw [cPut_eq]
      cases putD N (opD ops i) v sl with
      | none => rfl
      | some sl1 =>
        dsimp only
        cases Nat.ble nx nx1 with
        | false => rfl
        | true =>
          simp only [cond_true]
          cases Nat.beq nx1 (Nat.succ nx) with
          | false => rfl
          | true =>
            simp only [cond_true]
            cases h1.get nx with
            | none => rfl
            | some b =>
              simp only [onO_some, noneK_eq, onB_eq]
              cases (Ks.all fun K => (K.2.get nx).isNone) with
              | false => rfl
              | true => simp only [cond_true, T.seq_eq]
  | 1 =>
    simp only [Hd.bind_eq]
    have hr := rst_ops sl (opO ops i)
    rw [ldAny_congr hr]
    generalize opO ops i = op
    have gen : ∀ (o : Option AV), (onO o RSv.bad fun v => (cPut N (opD ops i)).un sl v fun sl1 => k sl1 st nx Ks pend) = match (match o with
        | some v => match putD N (opD ops i) v sl with
          | some sl1 => some ((⟨i, v, nx, nx, none, st, st, rst sl (opTmps op), true⟩ : Rec), (⟨sl1, st, nx, Ks, pend⟩ : PS))
          | none => none
        | none => none) with | some (_, s) => k s.sl s.st s.nx s.Ks s.pend | none => .bad := by
      intro o
      cases o with
      | none => rfl
      | some v =>
        simp only [onO_some]
        rw [cPut_eq]
        cases putD N (opD ops i) v sl <;> rfl
    cases op with
    | load t x =>
      simp only [Hd.un_mk, cX_eq]
      refine Eq.trans ?_ (gen (ldAny P ops i sl (.load t x) Ks pend))
      cases ha : evX sl x with
      | none =>
        have h1 : ldAny P ops i sl (.load t x) Ks pend = none := by
          have h2 : ldId sl (.load t x) = none := by simp only [ldId, ha]
          unfold ldAny; rw [h2]
          cases Ks with
          | nil => rfl
          | cons K Ks => simp only [ldAll, evRd, ha]
        rw [h1]; rfl
      | some a =>
        simp only [onO_some, ldK_eq ops i t x sl ha, ldAny]
        cases ldAll P ops i sl (.load t x) Ks with
        | some v => rfl
        | none =>
          simp only [onO_none]
          cases ldId sl (.load t x) with
          | none => rfl
          | some id => rfl
    | call c =>
      simp only
      cases hl : lenOp (.call c) with
      | none => exact gen _
      | some q =>
        obtain ⟨t, x⟩ := q
        obtain ⟨hd, hrd⟩ := lenOp_is (P := P) hl sl
        simp only [Hd.bind_eq, Hd.un_mk, cX_eq]
        refine Eq.trans ?_ (gen (ldAny P ops i sl (.call c) Ks pend))
        have hany : ldAny P ops i sl (.call c) Ks pend = ldAll P ops i sl (.call c) Ks := by
          unfold ldAny; rw [hd]; cases ldAll P ops i sl (.call c) Ks <;> rfl
        rw [hany]
        cases ha : evX sl x with
        | none =>
          have h1 : ldAll P ops i sl (.call c) Ks = none := by
            cases Ks with
            | nil => rfl
            | cons K Ks => simp only [ldAll, hrd, ha]
          rw [h1]; rfl
        | some a =>
          simp only [onO_some]
          rw [lnK_eq (P := P) ops i (cLenH P t).un sl a (.call c) (fun K => by rw [hrd, ha, cLenH_eq])]
    | _ => exact gen _
  | n + 2 =>
    simp only [Hd.bind_eq, Hd.un_mk, cOper_eq hG]
    rw [evOper_congr (sl' := rst sl (opTmps (opO ops i))) (rst_ops sl _)]
    cases evOper P X call sl st nx (opO ops i) with
    | bad => rfl
    | ok v h1 nx1 =>
      simp only [R.on]
      rw [cPut_eq]
      cases putD N (opD ops i) v sl with
      | none => rfl
      | some sl1 =>
        simp only [onB_eq]
        cases Nat.ble nx nx1 <;> rfl
/-- One that is not done. -/
noncomputable def cSkip (N : Nat) (ops : Array Oper) (i : Nat) : Hd (T AV → T AO → Nat → List (Nat × T AO) → List Rec → StK → RSv) :=
  (cPut N (opD ops i)).bind fun p => onB (Nat.beq (knd ops i) 2) (.mk fun sl st nx Ks _ k => p sl (.tup .nil) fun sl1 => k sl1 st nx ((i, st) :: Ks) []) (.mk fun sl st nx Ks pd k => p sl (.tup .nil) fun sl1 => k sl1 st nx Ks pd)
theorem cSkip_eq (ops : Array Oper) (i : Nat) (sl : T AV) (st : T AO) (nx : Nat) (Ks : List (Nat × T AO)) (pend : List Rec) (k : StK) :
    (cSkip N ops i).un sl st nx Ks pend k = match evSkip N ops i ⟨sl, st, nx, Ks, pend⟩ with | some (_, s) => k s.sl s.st s.nx s.Ks s.pend | none => .bad := by
  unfold cSkip evSkip
  simp only [Hd.bind_eq, onB_eq]
  cases Nat.beq (knd ops i) 2 with
  | true =>
    simp only [cond_true, Hd.un_mk]
    rw [cPut_eq]
    cases putD N (opD ops i) (.tup .nil) sl <;> rfl
  | false =>
    simp only [cond_false, Hd.un_mk]
    rw [cPut_eq]
    cases putD N (opD ops i) (.tup .nil) sl <;> rfl
noncomputable def cStep (P : Program) (X : Caller) (G : FuncId → Bool) (N : Nat) (ops : Array Oper) (i : Nat) : Hd (Caller → T AV → T AO → Nat → List (Nat × T AO) → List Rec → StK → RSv) :=
  (cStep1 P X G N ops i).bind fun s => match (ops.getD i default).guard with
    | none => .mk s
    | some _ => (cSkip N ops i).bind fun z => (cW ops (ops.getD i default)).bind fun w => .mk fun call sl st nx Ks pd k => onO (w sl) .bad fun b => onB b (s call sl st nx Ks pd k) (z sl st nx Ks pd k)
include hG in
theorem cStep_eq (X call : Caller) (ops : Array Oper) (i : Nat) (sl : T AV) (st : T AO) (nx : Nat) (Ks : List (Nat × T AO)) (pend : List Rec) (k : StK) :
    (cStep P X G N ops i).un call sl st nx Ks pend k = match evStep P X call N ops i ⟨sl, st, nx, Ks, pend⟩ with | some (_, s) => k s.sl s.st s.nx s.Ks s.pend | none => .bad := by
  unfold cStep evStep
  simp only [Hd.bind_eq]
  cases hg : (ops.getD i default).guard with
  | none =>
    have hw : evWanted ops (ops.getD i default) sl = some true := by unfold evWanted; rw [hg]
    simp only [Hd.un_mk, hw]
    exact cStep1_eq hG X call ops i sl st nx Ks pend k
  | some jw =>
    simp only [Hd.un_mk, cW_eq]
    cases evWanted ops (ops.getD i default) sl with
    | none => rfl
    | some b =>
      cases b with
      | true => exact cStep1_eq hG X call ops i sl st nx Ks pend k
      | false => exact cSkip_eq ops i sl st nx Ks pend k
noncomputable def cPlan (P : Program) (X : Caller) (G : FuncId → Bool) (N : Nat) (ops : Array Oper) : List Nat → Hd (Caller → StK)
  | [] => .mk fun _ sl st nx _ _ => .ok sl st nx
  | i :: l => (cStep P X G N ops i).bind fun s => (cPlan P X G N ops l).bind fun k => .mk fun call sl st nx Ks pd => s call sl st nx Ks pd (k call)
include hG in
theorem cPlan_eq (X call : Caller) (ops : Array Oper) : ∀ (l : List Nat) (sl : T AV) (st : T AO) (nx : Nat) (Ks : List (Nat × T AO)) (pend : List Rec),
    (cPlan P X G N ops l).un call sl st nx Ks pend = match evPlan P X call N ops l ⟨sl, st, nx, Ks, pend⟩ with | some (_, s) => .ok s.sl s.st s.nx | none => .bad
  | [], _, _, _, _, _ => rfl
  | i :: l, sl, st, nx, Ks, pend => by
    simp only [cPlan, evPlan, Hd.bind_eq, Hd.un_mk]
    rw [cStep_eq hG X call ops i sl st nx Ks pend]
    cases evStep P X call N ops i ⟨sl, st, nx, Ks, pend⟩ with
    | none => rfl
    | some rs =>
      obtain ⟨r, s⟩ := rs
      simp only
      rw [cPlan_eq X call ops l s.sl s.st s.nx s.Ks s.pend]
      cases evPlan P X call N ops l s <;> rfl
noncomputable def cDraw (P : Program) (X : Caller) (G : FuncId → Bool) (N : Nat) (ops : Array Oper) : Hd (Caller → T AV → T AO → Nat → RSv) :=
  onB (chkF N ops) ((cPlan P X G N ops (planF ops)).bind fun k => .mk fun call sl h nx => k call sl h nx [(ops.size, h)] []) (.mk fun _ _ _ _ => .bad)
include hG in
theorem cDraw_eq (X call : Caller) (ops : Array Oper) (sl : T AV) (h : T AO) (nx : Nat) : (cDraw P X G N ops).un call sl h nx = evDrawG (chkF N) planF P X call N ops sl h nx := by
  unfold cDraw evDrawG
  rw [onB_eq]
  cases chkF N ops with
  | false => rfl
  | true =>
    simp only [cond_true, Hd.bind_eq, Hd.un_mk]
    rw [cPlan_eq hG X call ops (planF ops) sl h nx _ []]
    cases evPlan P X call N ops (planF ops) ⟨sl, h, nx, [(ops.size, h)], []⟩ <;> rfl
end Go.Proofs.YteogphbdpjnjoaaGreat
