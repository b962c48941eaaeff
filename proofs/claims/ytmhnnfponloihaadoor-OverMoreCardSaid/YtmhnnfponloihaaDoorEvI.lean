/- Operations that do not touch memory: all of them at once. No Go program in this text. -/
import Derived.Test.YtmhnnfponloihaaDoorEvH
set_option linter.unusedSimpArgs false
set_option linter.unusedVariables false
namespace Go.Proofs.YtmhnnfponloihaaDoor
open Go.RowKit
variable {ρ : Map} {P : Program} {N : Nat} {sl : T AV} {a : Act}

/-- A number, or a rune, turned. -/
def convTy (P : Program) (s d : TypeId) : Nat × IntKind :=
  match P.underlying s, P.underlying d with
  | some _, some (.int k) => (1, k)
  | some _, some .string => (2, .i64)
  | some (.pointer _), some .unsafePointer => (0, .i64)
  | _, _ => (0, .i64)
noncomputable def evConv (P : Program) (s d : TypeId) (x : AV) : Option AV :=
  match convTy P s d, x with
  | (1, k), .i _ n => some (.i k (wrapF k n))
  | (1, .u64), .r false m n => some (.r true m n)
  | (2, _), .i _ n => some (.s (Utf8.encode n).size (numOf (Utf8.encode n).data.toList))
  | (2, _), .s n d => some (.s n d)
  | _, _ => none
theorem convTy_is {s d : TypeId} {k : IntKind} : (convTy P s d = (1, k) → (∃ e, P.underlying s = some e) ∧ P.underlying d = some (.int k)) ∧ (convTy P s d = (2, k) → (∃ e, P.underlying s = some e) ∧ P.underlying d = some .string) := by
  unfold convTy
  split <;> simp_all
theorem evConv_run {s d : TypeId} {x : AV} {x' : Value} (hx : VRel ρ x x') {v : AV} (h : evConv P s d x = some v) : ∃ u, (∀ w, (convert s d x').run P w = .ok u w) ∧ VRel ρ v u := by
  unfold evConv at h
  split at h
  · rename_i k j n hk
    obtain ⟨⟨e, h1⟩, h2⟩ := convTy_is.1 hk
    cases hx; cases h
    exact ⟨.int k (k.wrap n), fun w => by simp [convert, run_underlying h1, run_underlying h2, Conv.intToInt], by rw [wrapF_eq]; rfl⟩
  · rename_i m n hk
    obtain ⟨⟨e, h1⟩, h2⟩ := convTy_is.1 hk
    obtain ⟨z, rfl, hz, hm⟩ := hx; cases h
    have hw : IntKind.u64.wrap z = z % 18446744073709551616 := by simp [IntKind.wrap, IntKind.bits, IntKind.signed]
    refine ⟨.int .u64 (IntKind.u64.wrap z), fun w => by simp [convert, run_underlying h1, run_underlying h2, Conv.intToInt], _, rfl, fun _ => ?_, ?_⟩
    · rw [hw]; omega
    · rw [hw, ← hm]
      congr 1; omega
  · rename_i k j n hk
    obtain ⟨⟨e, h1⟩, h2⟩ := convTy_is.2 hk
    cases hx; cases h
    exact ⟨.string (Utf8.encode n), fun w => by simp [convert, run_underlying h1, run_underlying h2, Conv.intToString], _, rfl, SR.of _⟩
  · rename_i k n dd hk
    obtain ⟨⟨e, h1⟩, h2⟩ := convTy_is.2 hk
    obtain ⟨s', rfl, hs⟩ := hx; cases h
    exact ⟨.string s', fun w => by simp [convert, run_underlying h1, run_underlying h2], _, rfl, hs⟩
  · cases h
noncomputable def evUn (op : UnOp) (x : AV) : Option AV :=
  match op, x with
  | .neg, .i k n => some (.i k (wrapF k (Int.sub 0 n)))
  | .not, .b x => some (.b (!x))
  | _, _ => none
theorem evUn_run {op : UnOp} {x : AV} {x' : Value} (hx : VRel ρ x x') {v : AV} (h : evUn op x = some v) : ∃ u, (∀ w, (Op.unary op x').run P w = .ok u w) ∧ VRel ρ v u := by
  unfold evUn at h
  split at h
  · rename_i k n; cases hx; cases h; exact ⟨.int k (k.wrap (0 - n)), fun w => by simp only [Op.unary, Op.intArith]; rfl, by rw [wrapF_eq]; rfl⟩
  · cases hx; cases h; exact ⟨_, fun w => by simp [Op.unary] <;> rfl, rfl⟩
  · cases h
noncomputable def evParts (sl : T AV) : List (Nat × Operand) → Option (List (Nat × AV))
  | [] => some []
  | (i, x) :: l => match evX sl x with
    | some v => match evParts sl l with | some r => some ((i, v) :: r) | none => none
    | none => none
theorem evParts_rel (hS : SRel N ρ sl a) : ∀ {l : List (Nat × Operand)} {r : List (Nat × AV)}, evParts sl l = some r → PRel ρ r (l.map fun x => (x.1, a.eval x.2))
  | [], r, h => by simp only [evParts] at h; cases h; rfl
  | (i, x) :: l, r, h => by
    simp only [evParts] at h
    cases e : evX sl x with
    | none => simp [e] at h
    | some v =>
      cases f : evParts sl l with
      | none => simp [e, f] at h
      | some q =>
        simp [e, f] at h; subst h
        exact ⟨_, _, rfl, evX_rel hS e, evParts_rel hS f⟩
noncomputable def evNil (x : AV) : Option AV :=
  match x with
  | .p id off => some (.p id off)
  | .fn f c => some (.fn f c)
  | .ifc t v => some (.ifc t v)
  | _ => none
def arrTy (P : Program) (t : TypeId) : Option (Nat × TypeId × Nat) :=
  match P.underlying t with
  | some (.array len e) => match sizeTy P e with | some n => some (len, e, n) | none => none
  | _ => none
noncomputable def evArrAt (P : Program) (t : TypeId) (l : AVs) (i : Int) : Option AV :=
  match arrTy P t, natOf i with
  | some (len, e, z), some k => bif Nat.ble (Nat.succ k) len then evPart P e l (Nat.mul k z) else none
  | _, _ => none
theorem evArrAt_run {t : TypeId} {l : AVs} {x : Value} (hx : VRel ρ (.agg l) x) {k : IntKind} {i : Int} {v : AV} (h : evArrAt P t l i = some v) : ∃ u, (∀ w, (Instr.index t x (.int k i)).run P w = .ok u w) ∧ VRel ρ v u := by
  obtain ⟨c, rfl, hc⟩ := hx
  unfold evArrAt at h
  split at h
  · rename_i len e z m ht hn
    have := natOf_eq hn; subst this
    obtain ⟨h1, h⟩ := bif_some' h
    rw [Nat.ble_eq] at h1
    have hlt : m < len := h1
    unfold arrTy at ht
    split at ht
    · rename_i len' e' hu
      split at ht <;> cases ht
      rename_i hz
      obtain ⟨u, h2, h3⟩ := evPart_run hc h
      refine ⟨u, fun w => ?_, h3⟩
      have h4 := h2 w
      simp [Instr.index, asIntOf, run_underlying hu, hlt, sizeOf_run hz]
      exact h4
    · cases ht
  · cases h
noncomputable def evIndex (P : Program) (t : TypeId) (x i : AV) : Option AV :=
  match x, i with
  | .s n d, .i _ k => evStrAt P t n d k
  | .agg l, .i _ k => evArrAt P t l k
  | _, _ => none
/-- An operation that touches no memory. -/
noncomputable def evP (P : Program) (sl : T AV) : Op → Option AV
  | .move x => evX sl x
  | .assign x => evX sl x
  | .pick c x y => match evX sl c with
    | some (.b true) => evX sl x
    | some (.b false) => evX sl y
    | _ => none
  | .nilCheck x => match evX sl x with | some v => evNil v | none => none
  | .binOp op t x y _ => match evX sl x, evX sl y with | some u, some v => evBin P op t (isC x || isC y) u v | _, _ => none
  | .unOp op _ x => match evX sl x with | some v => evUn op v | none => none
  | .convert s d x => match evX sl x with | some v => evConv P s d v | none => none
  | .makeInterface t x => bif P.concrete t then (match evX sl x with | some v => some (.ifc t v) | none => none) else none
  | .makeFunc (.func f) first cap => match first.toList with
    | [] => match evXs sl cap.toList with | some l => some (.fn f l) | none => none
    | _ => none
  | .slice t x lo hi mx => match evX sl x, evB sl lo, evB sl hi, evB sl mx with
    | some v, some l, some h, some m => evSlice P t v l h m
    | _, _, _, _ => none
  | .fieldAddr t x i => match evX sl x, fieldOff P t i with | some (.p id off), some n => some (.p id (Nat.add off n)) | _, _ => none
  | .field t x i => match evX sl x with | some (.agg l) => evFieldV P t l i | _ => none
  | .indexAddr t x i => match evX sl x, evX sl i with | some v, some (.i _ n) => evIdx P t v n | _, _ => none
  | .index t x i => match evX sl x, evX sl i with | some v, some u => evIndex P t v u | _, _ => none
  | .extract x i => match evX sl x with | some (.tup l) => l.get i | _ => none
  | .typeAssert x _ t ok => match evX sl x with | some v => evTA P t ok v | none => none
  | .build t ps => match evParts sl ps.toList with | some l => evBuild P t l | none => none
  | _ => none
theorem evP_run (hS : SRel N ρ sl a) {o : Oper} {v : AV} (h : evP P sl o.op = some v) : ∃ u, (∀ w, (execOp a.eval o).run P w = .ok (.value u) w) ∧ VRel ρ v u := by
  obtain ⟨dst, op, ty, pos, aft, g⟩ := o
  have hv : ∀ {s : Sem Value} {u : Value} {w : World}, s.run P w = .ok u w → (do pure (.value (← s)) : Sem Next).run P w = .ok (.value u) w := by
    intro s u w e; simp [e]
  simp only at h
  cases op <;> simp only [evP] at h
  case move x => exact ⟨_, fun w => rfl, evX_rel hS h⟩
  case assign x => exact ⟨_, fun w => rfl, evX_rel hS h⟩
  case pick c x y =>
    split at h
    · rename_i hc
      have : VRel ρ _ _ := evX_rel hS hc
      exact ⟨_, fun w => by simp only [execOp]; simp [show a.eval c = .bool true from this, asBool] <;> rfl, evX_rel hS h⟩
    · rename_i hc
      have : VRel ρ _ _ := evX_rel hS hc
      exact ⟨_, fun w => by simp only [execOp]; simp [show a.eval c = .bool false from this, asBool] <;> rfl, evX_rel hS h⟩
    · cases h
  case nilCheck x =>
    split at h
    · rename_i y hx
      have hr := evX_rel hS hx
      unfold evNil at h
      split at h <;> cases h
      · obtain ⟨b, C, e, hv⟩ := hr
        exact ⟨_, fun w => by simp only [execOp, hv]; rfl, b, C, e, rfl⟩
      · obtain ⟨c, hv, e⟩ := hr
        exact ⟨_, fun w => by simp only [execOp, hv]; rfl, c, rfl, e⟩
      · obtain ⟨c, hv, e⟩ := hr
        exact ⟨_, fun w => by simp only [execOp, hv]; rfl, c, rfl, e⟩
    · cases h
  case binOp op t x y t' =>
    split at h
    · rename_i u v' hx hy
      obtain ⟨r, h1, h2⟩ := evBin_run (P := P) (evX_rel hS hx) (evX_rel hS hy) h
      exact ⟨r, fun w => hv (h1 w), h2⟩
    · cases h
  case unOp op t x =>
    split at h
    · rename_i u hx
      obtain ⟨r, h1, h2⟩ := evUn_run (P := P) (evX_rel hS hx) h
      exact ⟨r, fun w => hv (h1 w), h2⟩
    · cases h
  case convert s d x =>
    split at h
    · rename_i u hx
      obtain ⟨r, h1, h2⟩ := evConv_run (P := P) (evX_rel hS hx) h
      exact ⟨r, fun w => hv (h1 w), h2⟩
    · cases h
  case makeInterface t x =>
    obtain ⟨hc, h⟩ := bif_some' h
    split at h <;> cases h
    rename_i u hx
    exact ⟨_, fun w => hv (run_makeInterface w t _ hc), _, rfl, evX_rel hS hx⟩
  case makeFunc fn first cap =>
    cases fn <;> simp only [evP] at h <;> try cases h
    rename_i f
    split at h
    · rename_i hf
      split at h <;> cases h
      rename_i l hl
      have e1 : first = #[] := Array.toList_inj.1 hf
      subst e1
      have := evXs_rel hS hl
      exact ⟨.func (.func f) #[] (cap.map a.eval), fun w => by simp [execOp, Instr.makeFunc], _, rfl, by simpa using this⟩
    · cases h
  case slice t x lo hi mx =>
    split at h
    · rename_i v' l h' m hx hl hh hm
      have b1 := evB_run hS hl
      have b2 := evB_run hS hh
      have b3 := evB_run hS hm
      obtain ⟨r, h1, h2⟩ := evSlice_run (P := P) (evX_rel hS hx) b1 b2 b3 h
      exact ⟨r, fun w => hv (h1 w), h2⟩
    · cases h
  case fieldAddr t x i =>
    split at h
    · rename_i id off n hx hn
      cases h
      obtain ⟨b, C, e, hr⟩ := evX_rel hS hx
      exact ⟨_, fun w => by simp only [execOp]; rw [hr]; exact hv (fieldAt_run hn w), b, C, e, rfl⟩
    · cases h
  case field t x i =>
    split at h
    · rename_i l hx
      obtain ⟨r, h1, h2⟩ := evFieldV_run (P := P) (evX_rel hS hx) h
      exact ⟨r, fun w => hv (h1 w), h2⟩
    · cases h
  case indexAddr t x i =>
    split at h
    · rename_i v' k n hx hi
      have hn : VRel ρ _ _ := evX_rel hS hi
      obtain ⟨r, h1, h2⟩ := evIdx_run (P := P) (k := k) (evX_rel hS hx) h
      exact ⟨r, fun w => by simp only [execOp]; rw [show a.eval i = .int k n from hn]; exact hv (h1 w), h2⟩
    · cases h
  case index t x i =>
    split at h
    · rename_i v' u hx hi
      unfold evIndex at h
      split at h
      · rename_i n d kk k
        obtain ⟨s, hs, hs'⟩ := evX_rel hS hx
        have hn : VRel ρ _ _ := evX_rel hS hi
        obtain ⟨r, h1, h2⟩ := evStrAt_run (ρ := ρ) (k := kk) hs' h
        exact ⟨r, fun w => by simp only [execOp]; rw [show a.eval i = .int kk k from hn, hs]; exact hv (h1 w), h2⟩
      · rename_i l kk k
        have hn : VRel ρ _ _ := evX_rel hS hi
        obtain ⟨r, h1, h2⟩ := evArrAt_run (P := P) (k := kk) (evX_rel hS hx) h
        exact ⟨r, fun w => by simp only [execOp]; rw [show a.eval i = .int kk k from hn]; exact hv (h1 w), h2⟩
      · cases h
    · cases h
  case extract x i =>
    split at h
    · rename_i l hx
      obtain ⟨c, hc, hr⟩ := evX_rel hS hx
      obtain ⟨u, hu, h2⟩ := hr.at h
      have hu' : c[i]? = some u := by simpa using hu
      exact ⟨u, fun w => by simp only [execOp, hc, Instr.extract, hu']; rfl, h2⟩
    · cases h
  case typeAssert x xt t ok =>
    split at h
    · rename_i v' hx
      obtain ⟨r, h1, h2⟩ := evTA_run (P := P) (xt := xt) (evX_rel hS hx) h
      exact ⟨r, fun w => hv (h1 w), h2⟩
    · cases h
  case build t ps =>
    split at h
    · rename_i l hl
      have hp := evParts_rel hS hl
      obtain ⟨r, h1, h2⟩ := evBuild_run (P := P) (t := t) (l := l) (m := ps.map fun x => (x.1, a.eval x.2)) (by simpa using hp) h
      exact ⟨r, fun w => hv (h1 w), h2⟩
    · cases h
  all_goals cases h
end Go.Proofs.YtmhnnfponloihaaDoor
