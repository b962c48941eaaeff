/- A closed run, run by the kernel: part 2 of 6. No Go program in this text. -/
import Derived.Test.YteogphbdpjnjoaaGreatEw1
import Derived.Laws.CopyRow
import Derived.Laws.AppendOwn
import Derived.Lib.Builder
import Derived.Lib.UnsafeStr
import Derived.Lib.ConvBytes
import Derived.Laws.StructEq
set_option linter.unusedSimpArgs false
set_option linter.unusedVariables false
namespace Go.Proofs.YteogphbdpjnjoaaGreat
open Go.RowKit
variable {ρ : Map} {P : Program} {N : Nat} {sl : T AV} {a : Act}

/-- A number, or a rune, turned. -/
def convTy (P : Program) (s d : TypeId) : Nat × IntKind :=
  match P.underlying s, P.underlying d with
  | some _, some (.int k) => (1, k)
  | some _, some .string => (2, .i64)
  | some (.pointer _), some .unsafePointer => (0, .i64)
  | _, _ => (0, .i64)
noncomputable def evConv (P : Program) (s d : TypeId) (x : AV) : Option AV :=
  match convTy P s d, x with
  | (1, k), .i _ n => some (.i k (wrapF k n))
  | (1, .u64), .r false m n => some (.r true m n)
  | (2, _), .i _ n => some (.s (Utf8.encode n).size (numOf (Utf8.encode n).data.toList))
  | (2, _), .s n d => some (.s n d)
  | _, _ => none
theorem convTy_is {s d : TypeId} {k : IntKind} : (convTy P s d = (1, k) → (∃ e, P.underlying s = some e) ∧ P.underlying d = some (.int k)) ∧ (convTy P s d = (2, k) → (∃ e, P.underlying s = some e) ∧ P.underlying d = some .string) := by
  unfold convTy
  split <;> simp_all
theorem evConv_run {s d : TypeId} {x : AV} {x' : Value} (hx : VRel ρ x x') {v : AV} (h : evConv P s d x = some v) : ∃ u, (∀ w, (convert s d x').run P w = .ok u w) ∧ VRel ρ v u := by
  unfold evConv at h
  split at h
  · rename_i k j n hk
    obtain ⟨⟨e, h1⟩, h2⟩ := convTy_is.1 hk
    cases hx; cases h
    exact ⟨.int k (k.wrap n), fun w => by simp [convert, run_underlying h1, run_underlying h2, Conv.intToInt], by rw [wrapF_eq]; rfl⟩
  · rename_i m n hk
    obtain ⟨⟨e, h1⟩, h2⟩ := convTy_is.1 hk
    obtain ⟨z, rfl, hz, hm⟩ := hx; cases h
    have hw : IntKind.u64.wrap z = z % 18446744073709551616 := by simp [IntKind.wrap, IntKind.bits, IntKind.signed]
    refine ⟨.int .u64 (IntKind.u64.wrap z), fun w => by simp [convert, run_underlying h1, run_underlying h2, Conv.intToInt], _, rfl, fun _ => ?_, ?_⟩
    · rw [hw]; omega
    · rw [hw, ← hm]
      congr 1; omega
  · rename_i k j n hk
    obtain ⟨⟨e, h1⟩, h2⟩ := convTy_is.2 hk
    cases hx; cases h
    exact ⟨.string (Utf8.encode n), fun w => by simp [convert, run_underlying h1, run_underlying h2, Conv.intToString], _, rfl, SR.of _⟩
  · rename_i k n dd hk
    obtain ⟨⟨e, h1⟩, h2⟩ := convTy_is.2 hk
    obtain ⟨s', rfl, hs⟩ := hx; cases h
    exact ⟨.string s', fun w => by simp [convert, run_underlying h1, run_underlying h2], _, rfl, hs⟩
  · cases h
noncomputable def evUn (op : UnOp) (x : AV) : Option AV :=
  match op, x with
  | .neg, .i k n => some (.i k (wrapF k (Int.sub 0 n)))
  | .not, .b x => some (.b (!x))
  | _, _ => none
theorem evUn_run {op : UnOp} {x : AV} {x' : Value} (hx : VRel ρ x x') {v : AV} (h : evUn op x = some v) : ∃ u, (∀ w, (Op.unary op x').run P w = .ok u w) ∧ VRel ρ v u := by
  unfold evUn at h
  split at h
  · rename_i k n; cases hx; cases h; exact ⟨.int k (k.wrap (0 - n)), fun w => by simp only [Op.unary, Op.intArith]; rfl, by rw [wrapF_eq]; rfl⟩
  · cases hx; cases h; exact ⟨_, fun w => by simp [Op.unary] <;> rfl, rfl⟩
  · cases h
noncomputable def evParts (sl : T AV) : List (Nat × Operand) → Option (List (Nat × AV))
  | [] => some []
  | (i, x) :: l => match evX sl x with
    | some v => match evParts sl l with | some r => some ((i, v) :: r) | none => none
    | none => none
theorem evParts_rel (hS : SRel N ρ sl a) : ∀ {l : List (Nat × Operand)} {r : List (Nat × AV)}, evParts sl l = some r → PRel ρ r (l.map fun x => (x.1, a.eval x.2))
  | [], r, h => by simp only [evParts] at h; cases h; rfl
  | (i, x) :: l, r, h => by
    simp only [evParts] at h
    cases e : evX sl x with
    | none => simp [e] at h
    | some v =>
      cases f : evParts sl l with
      | none => simp [e, f] at h
      | some q =>
        simp [e, f] at h; subst h
        exact ⟨_, _, rfl, evX_rel hS e, evParts_rel hS f⟩
noncomputable def evNil (x : AV) : Option AV :=
  match x with
  | .p id off => some (.p id off)
  | .fn f c => some (.fn f c)
  | .ifc t v => some (.ifc t v)
  | _ => none
def arrTy (P : Program) (t : TypeId) : Option (Nat × TypeId × Nat) :=
  match P.underlying t with
  | some (.array len e) => match sizeTy P e with | some n => some (len, e, n) | none => none
  | _ => none
noncomputable def evArrAt (P : Program) (t : TypeId) (l : AVs) (i : Int) : Option AV :=
  match arrTy P t, natOf i with
  | some (len, e, z), some k => bif Nat.ble (Nat.succ k) len then evPart P e l (Nat.mul k z) else none
  | _, _ => none
theorem evArrAt_run {t : TypeId} {l : AVs} {x : Value} (hx : VRel ρ (.agg l) x) {k : IntKind} {i : Int} {v : AV} (h : evArrAt P t l i = some v) : ∃ u, (∀ w, (Instr.index t x (.int k i)).run P w = .ok u w) ∧ VRel ρ v u := by
  obtain ⟨c, rfl, hc⟩ := hx
  unfold evArrAt at h
  split at h
  · rename_i len e z m ht hn
    have := natOf_eq hn; subst this
    obtain ⟨h1, h⟩ := bif_some' h
    rw [Nat.ble_eq] at h1
    have hlt : m < len := h1
    unfold arrTy at ht
    split at ht
    · rename_i len' e' hu
      split at ht <;> cases ht
      rename_i hz
      obtain ⟨u, h2, h3⟩ := evPart_run hc h
      refine ⟨u, fun w => ?_, h3⟩
      have h4 := h2 w
      simp [Instr.index, asIntOf, run_underlying hu, hlt, sizeOf_run hz]
      exact h4
    · cases ht
  · cases h
noncomputable def evIndex (P : Program) (t : TypeId) (x i : AV) : Option AV :=
  match x, i with
  | .s n d, .i _ k => evStrAt P t n d k
  | .agg l, .i _ k => evArrAt P t l k
  | _, _ => none
/-- An operation that touches no memory. -/
noncomputable def evP (P : Program) (sl : T AV) : Op → Option AV
  | .move x => evX sl x
  | .assign x => evX sl x
  | .pick c x y => match evX sl c with
    | some (.b true) => evX sl x
    | some (.b false) => evX sl y
    | _ => none
  | .nilCheck x => match evX sl x with | some v => evNil v | none => none
  | .binOp op t x y _ => match evX sl x, evX sl y with | some u, some v => evBin P op t (isC x || isC y) u v | _, _ => none
  | .unOp op _ x => match evX sl x with | some v => evUn op v | none => none
  | .convert s d x => match evX sl x with | some v => evConv P s d v | none => none
  | .makeInterface t x => bif P.concrete t then (match evX sl x with | some v => some (.ifc t v) | none => none) else none
  | .makeFunc (.func f) first cap => match first.toList with
    | [] => match evXs sl cap.toList with | some l => some (.fn f l) | none => none
    | _ => none
  | .slice t x lo hi mx => match evX sl x, evB sl lo, evB sl hi, evB sl mx with
    | some v, some l, some h, some m => evSlice P t v l h m
    | _, _, _, _ => none
  | .fieldAddr t x i => match evX sl x, fieldOff P t i with | some (.p id off), some n => some (.p id (Nat.add off n)) | _, _ => none
  | .field t x i => match evX sl x with | some (.agg l) => evFieldV P t l i | _ => none
  | .indexAddr t x i => match evX sl x, evX sl i with | some v, some (.i _ n) => evIdx P t v n | _, _ => none
  | .index t x i => match evX sl x, evX sl i with | some v, some u => evIndex P t v u | _, _ => none
  | .extract x i => match evX sl x with | some (.tup l) => l.get i | _ => none
  | .typeAssert x _ t ok => match evX sl x with | some v => evTA P t ok v | none => none
  | .build t ps => match evParts sl ps.toList with | some l => evBuild P t l | none => none
  | _ => none
theorem evP_run (hS : SRel N ρ sl a) {o : Oper} {v : AV} (h : evP P sl o.op = some v) : ∃ u, (∀ w, (execOp a.eval o).run P w = .ok (.value u) w) ∧ VRel ρ v u := by
  obtain ⟨dst, op, ty, pos, aft, g⟩ := o
  have hv : ∀ {s : Sem Value} {u : Value} {w : World}, s.run P w = .ok u w → (do pure (.value (← s)) : Sem Next).run P w = .ok (.value u) w := by
    intro s u w e; simp [e]
  simp only at h
  cases op <;> simp only [evP] at h
  case move x => exact ⟨_, fun w => rfl, evX_rel hS h⟩
  case assign x => exact ⟨_, fun w => rfl, evX_rel hS h⟩
  case pick c x y =>
    split at h
    · rename_i hc
      have : VRel ρ _ _ := evX_rel hS hc
      exact ⟨_, fun w => by simp only [execOp]; simp [show a.eval c = .bool true from this, asBool] <;> rfl, evX_rel hS h⟩
    · rename_i hc
      have : VRel ρ _ _ := evX_rel hS hc
      exact ⟨_, fun w => by simp only [execOp]; simp [show a.eval c = .bool false from this, asBool] <;> rfl, evX_rel hS h⟩
    · cases h
  case nilCheck x =>
    split at h
    · rename_i y hx
      have hr := evX_rel hS hx
      unfold evNil at h
      split at h <;> cases h
      · obtain ⟨b, C, e, hv⟩ := hr
        exact ⟨_, fun w => by simp only [execOp, hv]; rfl, b, C, e, rfl⟩
      · obtain ⟨c, hv, e⟩ := hr
        exact ⟨_, fun w => by simp only [execOp, hv]; rfl, c, rfl, e⟩
      · obtain ⟨c, hv, e⟩ := hr
        exact ⟨_, fun w => by simp only [execOp, hv]; rfl, c, rfl, e⟩
    · cases h
  case binOp op t x y t' =>
    split at h
    · rename_i u v' hx hy
      obtain ⟨r, h1, h2⟩ := evBin_run (P := P) (evX_rel hS hx) (evX_rel hS hy) h
      exact ⟨r, fun w => hv (h1 w), h2⟩
    · cases h
  case unOp op t x =>
    split at h
    · rename_i u hx
      obtain ⟨r, h1, h2⟩ := evUn_run (P := P) (evX_rel hS hx) h
      exact ⟨r, fun w => hv (h1 w), h2⟩
    · cases h
  case convert s d x =>
    split at h
    · rename_i u hx
      obtain ⟨r, h1, h2⟩ := evConv_run (P := P) (evX_rel hS hx) h
      exact ⟨r, fun w => hv (h1 w), h2⟩
    · cases h
  case makeInterface t x =>
    obtain ⟨hc, h⟩ := bif_some' h
    split at h <;> cases h
    rename_i u hx
    exact ⟨_, fun w => hv (run_makeInterface w t _ hc), _, rfl, evX_rel hS hx⟩
  case makeFunc fn first cap =>
    cases fn <;> simp only [evP] at h <;> try cases h
    rename_i f
    split at h
    · rename_i hf
      split at h <;> cases h
      rename_i l hl
      have e1 : first = #[] := Array.toList_inj.1 hf
      subst e1
      have := evXs_rel hS hl
      exact ⟨.func (.func f) #[] (cap.map a.eval), fun w => by simp [execOp, Instr.makeFunc], _, rfl, by simpa using this⟩
    · cases h
  case slice t x lo hi mx =>
    split at h
    · rename_i v' l h' m hx hl hh hm
      have b1 := evB_run hS hl
      have b2 := evB_run hS hh
      have b3 := evB_run hS hm
      obtain ⟨r, h1, h2⟩ := evSlice_run (P := P) (evX_rel hS hx) b1 b2 b3 h
      exact ⟨r, fun w => hv (h1 w), h2⟩
    · cases h
  case fieldAddr t x i =>
    split at h
    · rename_i id off n hx hn
      cases h
      obtain ⟨b, C, e, hr⟩ := evX_rel hS hx
      exact ⟨_, fun w => by simp only [execOp]; rw [hr]; exact hv (fieldAt_run hn w), b, C, e, rfl⟩
    · cases h
  case field t x i =>
    split at h
    · rename_i l hx
      obtain ⟨r, h1, h2⟩ := evFieldV_run (P := P) (evX_rel hS hx) h
      exact ⟨r, fun w => hv (h1 w), h2⟩
    · cases h
  case indexAddr t x i =>
    split at h
    · rename_i v' k n hx hi
      have hn : VRel ρ _ _ := evX_rel hS hi
      obtain ⟨r, h1, h2⟩ := evIdx_run (P := P) (k := k) (evX_rel hS hx) h
      exact ⟨r, fun w => by simp only [execOp]; rw [show a.eval i = .int k n from hn]; exact hv (h1 w), h2⟩
    · cases h
  case index t x i =>
    split at h
    · rename_i v' u hx hi
      unfold evIndex at h
      split at h
      · rename_i n d kk k
        obtain ⟨s, hs, hs'⟩ := evX_rel hS hx
        have hn : VRel ρ _ _ := evX_rel hS hi
        obtain ⟨r, h1, h2⟩ := evStrAt_run (ρ := ρ) (k := kk) hs' h
        exact ⟨r, fun w => by simp only [execOp]; rw [show a.eval i = .int kk k from hn, hs]; exact hv (h1 w), h2⟩
      · rename_i l kk k
        have hn : VRel ρ _ _ := evX_rel hS hi
        obtain ⟨r, h1, h2⟩ := evArrAt_run (P := P) (k := kk) (evX_rel hS hx) h
        exact ⟨r, fun w => by simp only [execOp]; rw [show a.eval i = .int kk k from hn]; exact hv (h1 w), h2⟩
      · cases h
    · cases h
  case extract x i =>
    split at h
    · rename_i l hx
      obtain ⟨c, hc, hr⟩ := evX_rel hS hx
      obtain ⟨u, hu, h2⟩ := hr.at h
      have hu' : c[i]? = some u := by simpa using hu
      exact ⟨u, fun w => by simp only [execOp, hc, Instr.extract, hu']; rfl, h2⟩
    · cases h
  case typeAssert x xt t ok =>
    split at h
    · rename_i v' hx
      obtain ⟨r, h1, h2⟩ := evTA_run (P := P) (xt := xt) (evX_rel hS hx) h
      exact ⟨r, fun w => hv (h1 w), h2⟩
    · cases h
  case build t ps =>
    split at h
    · rename_i l hl
      have hp := evParts_rel hS hl
      obtain ⟨r, h1, h2⟩ := evBuild_run (P := P) (t := t) (l := l) (m := ps.map fun x => (x.1, a.eval x.2)) (by simpa using hp) h
      exact ⟨r, fun w => hv (h1 w), h2⟩
    · cases h
  all_goals cases h
end Go.Proofs.YteogphbdpjnjoaaGreat
namespace Go.Proofs.YteogphbdpjnjoaaGreat
open Go.RowKit
variable {ρ : Map} {P : Program} {N : Nat} {sl : T AV} {a : Act} {h : T AO} {w : World} {nx : Nat}

/-- What an operation has come to. -/
inductive R where
  | ok (v : AV) (h : T AO) (nx : Nat)
  | bad
def Does (P : Program) (ρ : Map) (h h' : T AO) (nx nx' : Nat) (v : AV) (s : Sem Next) (w : World) : Prop :=
  ∃ ρ' w', Stp ρ ρ' h.get h'.get w w' nx nx' ∧ ((∃ u, s.run P w = .ok (.value u) w' ∧ VRel ρ' v u) ∨ (s.run P w = .ok .skip w' ∧ v = .tup .nil))
def AO.tr : AO → Option (T AV)
  | .cells t _ _ => some t
  | .grow t _ _ _ => some t
  | .iter _ _ _ => none
  | .ro _ => none
  | .lp _ _ _ _ _ _ => none
  | .mps _ => none
  | .gl => none
/-- What may be read. -/
def AO.rd : AO → Option (T AV)
  | .cells t _ _ => some t
  | .grow t _ _ _ => some t
  | .iter _ _ _ => none
  | .ro t => some t
  | .lp _ _ _ _ _ _ => none
  | .mps _ => none
  | .gl => none
def AO.ty : AO → TypeId
  | .cells _ _ e => e
  | .grow _ _ _ e => e
  | .iter _ _ _ => 0
  | .ro _ => 0
  | .lp _ _ _ _ _ _ => 0
  | .mps _ => 0
  | .gl => 0
theorem ORel.tr {C : Nat} {o : AO} {ob : Obj} (hR : ORel ρ C o ob) {t : T AV} (ht : o.tr = some t) : ∃ c, ob = .cells c o.ty (0, 0) ∧ CRel ρ t c := by
  cases o with
  | cells t' n e => simp only [AO.tr] at ht; cases ht; obtain ⟨c, h1, _, h2⟩ := hR; exact ⟨c, h1, h2⟩
  | grow t' n z e => simp only [AO.tr] at ht; cases ht; obtain ⟨c, h1, _, _, _, _, h2⟩ := hR; exact ⟨c, h1, h2⟩
  | iter _ _ _ => simp [AO.tr] at ht
  | ro _ => simp [AO.tr] at ht
  | lp _ _ _ _ _ _ => simp [AO.tr] at ht
  | mps _ => simp [AO.tr] at ht
  | gl => simp [AO.tr] at ht
theorem ORel.rd {C : Nat} {o : AO} {ob : Obj} (hR : ORel ρ C o ob) {t : T AV} (ht : o.rd = some t) : ∃ c e f, ob = .cells c e f ∧ CRel ρ t c := by
  cases o with
  | cells t' n e => simp only [AO.rd] at ht; cases ht; obtain ⟨c, h1, _, h2⟩ := hR; exact ⟨c, _, _, h1, h2⟩
  | grow t' n z e => simp only [AO.rd] at ht; cases ht; obtain ⟨c, h1, _, _, _, _, h2⟩ := hR; exact ⟨c, _, _, h1, h2⟩
  | iter _ _ _ => simp [AO.rd] at ht
  | ro t' => simp only [AO.rd] at ht; cases ht; exact hR
  | lp _ _ _ _ _ _ => simp [AO.rd] at ht
  | mps _ => simp [AO.rd] at ht
  | gl => simp [AO.rd] at ht
theorem cell_at {b off : Nat} {c : Array Value} {e : TypeId} {f : Nat × Nat} (hb : w.heap[b]? = some (.cells c e f)) : w.cell? ⟨b, off, none⟩ = c[off]? := by simp [World.cell?, hb]
/-- A block that is known. -/
theorem rel_block (hR : Rel ρ h.get w) {id : Nat} {o : AO} {t : T AV} (hid : h.get id = some o) (ht : o.tr = some t) {b C : Nat} (hb : ρ id = some (b, C)) : ∃ c, w.heap[b]? = some (.cells c o.ty (0, 0)) ∧ CRel ρ t c := by
  obtain ⟨b', C', ob, h1, h2, h3⟩ := hR.has id o hid
  rw [hb] at h1; cases h1
  obtain ⟨c, rfl, h4⟩ := h3.tr ht
  exact ⟨c, h2, h4⟩
theorem rel_read (hR : Rel ρ h.get w) {id : Nat} {o : AO} {t : T AV} (hid : h.get id = some o) (ht : o.rd = some t) {b C : Nat} (hb : ρ id = some (b, C)) : ∃ c e f, w.heap[b]? = some (.cells c e f) ∧ CRel ρ t c := by
  obtain ⟨b', C', ob, h1, h2, h3⟩ := hR.has id o hid
  rw [hb] at h1; cases h1
  obtain ⟨c, e, f, rfl, h4⟩ := h3.rd ht
  exact ⟨c, e, f, h2, h4⟩
/-- n cells from a place on. -/
noncomputable def readN (t : T AV) : Nat → Nat → Option AVs
  | 0, _ => some .nil
  | n + 1, off => match t.get off with
    | some v => match readN t n (Nat.succ off) with | some l => some (.cons v l) | none => none
    | none => none
theorem readN_rel {t : T AV} {c : Array Value} (hc : CRel ρ t c) : ∀ (n off : Nat) {l : AVs}, readN t n off = some l → off + n ≤ c.size ∨ n = 0 → VsRel ρ l ((c.toList.drop off).take n)
  | 0, off, l, h, _ => by simp only [readN] at h; cases h; simp [VsRel]
  | n + 1, off, l, h, hn => by
    simp only [readN] at h
    cases e : t.get off with
    | none => simp [e] at h
    | some v =>
      cases f : readN t n (Nat.succ off) with
      | none => simp [e, f] at h
      | some m =>
        simp [e, f] at h; subst h
        obtain ⟨u, hu, hv⟩ := hc off v e
        have hlt : off < c.size := (Array.getElem?_eq_some_iff.1 hu).1
        have hd : c.toList.drop off = u :: c.toList.drop (off + 1) := by
          rw [List.drop_eq_getElem_cons (by simpa using hlt)]
          congr 1
          have := (Array.getElem?_eq_some_iff.1 hu).2
          simpa using this
        refine ⟨u, _, ?_, hv, readN_rel hc n (off + 1) f (by omega)⟩
        rw [hd, List.take_succ_cons]
theorem readN_le {t : T AV} {c : Array Value} (hc : CRel ρ t c) : ∀ (n off : Nat) {l : AVs}, readN t n off = some l → 0 < n → off + n ≤ c.size
  | 0, off, l, h, hn => by omega
  | n + 1, off, l, h, _ => by
    simp only [readN] at h
    cases e : t.get off with
    | none => simp [e] at h
    | some v =>
      cases f : readN t n (Nat.succ off) with
      | none => simp [e, f] at h
      | some m =>
        obtain ⟨u, hu, _⟩ := hc off v e
        have hlt : off < c.size := (Array.getElem?_eq_some_iff.1 hu).1
        by_cases hn : n = 0
        · omega
        · have := readN_le hc n (off + 1) f (by omega); omega
theorem readN_run {t : T AV} {c : Array Value} {e : TypeId} {f : Nat × Nat} {b : Nat} (hb : w.heap[b]? = some (.cells c e f)) (hc : CRel ρ t c) {n off : Nat} {l : AVs} (hl : readN t n off = some l) :
    ∃ m : List Value, m.length = n ∧ VsRel ρ l m ∧ (∀ j u, m[j]? = some u → w.cell? ((⟨b, off, none⟩ : Addr).add j) = some u) ∧ (loadCells ⟨b, off, none⟩ n).run P w = .ok m.toArray w := by
  have hle : off + n ≤ c.size ∨ n = 0 := by
    by_cases h0 : n = 0
    · exact .inr h0
    · exact .inl (readN_le hc n off hl (by omega))
  have hr := readN_rel hc n off hl hle
  have hlen : ((c.toList.drop off).take n).length = n := by
    rcases hle with h1 | h1
    · simp; omega
    · simp [h1]
  have hcell : ∀ j u, ((c.toList.drop off).take n)[j]? = some u → w.cell? ((⟨b, off, none⟩ : Addr).add j) = some u := by
    intro j u hj
    rw [addr_add, cell_at hb]
    have hjn : j < n := by have := (List.getElem?_eq_some_iff.1 hj).1; omega
    rw [List.getElem?_take_of_lt hjn, List.getElem?_drop] at hj
    simpa using hj
  have hrun := run_loadCells_list (P := P) w ⟨b, off, none⟩ _ hcell
  rw [hlen] at hrun
  exact ⟨_, hlen, hr, hcell, hrun⟩
noncomputable def evLoad (P : Program) (h : T AO) (t : TypeId) (x : AV) : Option AV :=
  match x with
  | .p id off => match h.get id with
    | some o => match o.rd with
      | some tr => match aggTy P t, sizeTy P t with
        | 1, some n => match readN tr n off with | some l => some (.agg l) | none => none
        | 2, _ => tr.get off
        | _, _ => none
      | none => none
    | none => none
  | _ => none
theorem evLoad_run (hR : Rel ρ h.get w) {t : TypeId} {x : AV} {x' : Value} (hx : VRel ρ x x') {v : AV} (hv : evLoad P h t x = some v) : ∃ u, (Instr.loadAt t x').run P w = .ok u w ∧ VRel ρ v u := by
  unfold evLoad at hv
  split at hv
  · rename_i id off
    obtain ⟨b, C, hb, rfl⟩ := hx
    split at hv
    · rename_i o hid
      split at hv
      · rename_i tr ht
        obtain ⟨c, _, _, hblk, hc⟩ := rel_read hR hid ht hb
        split at hv
        · rename_i n h1 h2
          split at hv <;> cases hv
          rename_i l hl
          obtain ⟨m, _, hm, _, hrun⟩ := readN_run (P := P) hblk hc hl
          exact ⟨.agg m.toArray, by simp [Instr.loadAt, Instr.sureAddr, loadVar, (isAgg_run w).1 h1, sizeOf_run h2, hrun], _, rfl, by simpa using hm⟩
        · rename_i h1
          obtain ⟨u, hu, hr⟩ := hc off v hv
          have hcell : w.cell? ⟨b, off, none⟩ = some u := by rw [cell_at hblk]; exact hu
          exact ⟨u, by simp [Instr.loadAt, Instr.sureAddr, loadVar, (isAgg_run w).2 h1, hcell], hr⟩
        · cases hv
      · cases hv
    · cases hv
  · cases hv
/-- Cells written from a place on, where there are some. -/
noncomputable def writeN : AVs → Nat → T AV → Option (T AV)
  | .nil, _, t => some t
  | .cons v l, off, t => match t.get off with
    | some _ => (t.put off v).seq fun t => writeN l (Nat.succ off) t
    | none => none
theorem writeN_cons (v : AV) (l : AVs) (off : Nat) (t : T AV) : writeN (.cons v l) off t = match t.get off with | some _ => writeN l (off + 1) (t.put off v) | none => none := by
  simp only [writeN, T.seq_eq]
theorem writeN_get : ∀ {l : AVs} {off : Nat} {t t' : T AV}, writeN l off t = some t' → ∀ k, (t'.get k = if off ≤ k ∧ k < off + l.len then l.get (k - off) else t.get k) ∧ (off ≤ k → k < off + l.len → (t.get k).isSome = true)
  | .nil, off, t, t', h, k => by
    simp only [writeN] at h; cases h
    have hl : AVs.nil.len = 0 := rfl
    exact ⟨by rw [if_neg (by omega)], fun h1 h2 => by omega⟩
  | .cons v l, off, t, t', h, k => by
    rw [writeN_cons] at h
    cases e : t.get off with
    | none => simp [e] at h
    | some x =>
      simp only [e] at h
      obtain ⟨h1, h2⟩ := writeN_get h k
      rw [T.get_put] at h1 h2
      have hl : (AVs.cons v l).len = l.len + 1 := rfl
      constructor
      · rw [h1]
        by_cases hk : k = off
        · subst hk
          rw [if_neg (by omega), if_pos rfl, if_pos (by omega)]
          simp [AVs.get]
        · rw [if_neg hk]
          by_cases h3 : off + 1 ≤ k ∧ k < off + 1 + l.len
          · rw [if_pos h3, if_pos (by omega)]
            obtain ⟨j, hj⟩ : ∃ j, k - off = j + 1 := ⟨k - off - 1, by omega⟩
            rw [hj, show k - (off + 1) = j by omega]; rfl
          · rw [if_neg h3, if_neg (by omega)]
      · intro h3 h4
        by_cases hk : k = off
        · subst hk; simp [e]
        · rw [if_neg hk] at h2
          exact h2 (by omega) (by omega)
theorem CRel.write {t t' : T AV} {c : Array Value} (hc : CRel ρ t c) {l : AVs} {m : List Value} (hm : VsRel ρ l m) {off : Nat} (h : writeN l off t = some t') :
    off + m.length ≤ c.size ∨ m = [] → CRel ρ t' (c.toList.take off ++ m ++ c.toList.drop (off + m.length)).toArray := by
  intro hle k v e
  obtain ⟨h1, h2⟩ := writeN_get h k
  have hlen := hm.len
  rw [h1] at e
  rcases hle with hle | rfl
  · by_cases hk : off ≤ k ∧ k < off + l.len
    · rw [if_pos hk] at e
      obtain ⟨u, hu, hr⟩ := hm.at e
      refine ⟨u, ?_, hr⟩
      rw [List.getElem?_toArray, List.append_assoc, List.getElem?_append_right (by simp; omega), List.getElem?_append_left (by simp; omega)]
      simp only [List.length_take, Array.length_toList]
      rw [Nat.min_eq_left (by omega)]; exact hu
    · rw [if_neg hk] at e
      obtain ⟨u, hu, hr⟩ := hc k v e
      refine ⟨u, ?_, hr⟩
      have hu' : c.toList[k]? = some u := by simpa using hu
      rw [List.getElem?_toArray]
      by_cases hlt : k < off
      · rw [List.append_assoc, List.getElem?_append_left (by simp; omega), List.getElem?_take_of_lt hlt]; exact hu'
      · rw [List.getElem?_append_right (by simp; omega), List.getElem?_drop]
        simp only [List.length_append, List.length_take, Array.length_toList]
        rw [Nat.min_eq_left (by omega)]
        rw [show off + m.length + (k - (off + m.length)) = k by omega]; exact hu'
  · have : l.len = 0 := by simpa using hlen
    rw [this] at e
    rw [if_neg (by omega)] at e
    obtain ⟨u, hu, hr⟩ := hc k v e
    exact ⟨u, by simpa using hu, hr⟩
def AO.setTr : AO → T AV → AO
  | .cells _ n e, t => .cells t n e
  | .grow _ n z e, t => .grow t n z e
  | .iter n d p, _ => .iter n d p
  | .ro t, _ => .ro t
  | .lp a b c d e f, _ => .lp a b c d e f
  | .mps l, _ => .mps l
  | .gl, _ => .gl
theorem writeN_lt {t t' : T AV} {c : Array Value} (hc : CRel ρ t c) {l : AVs} {off : Nat} (h : writeN l off t = some t') : off + l.len ≤ c.size ∨ l.len = 0 := by
  by_cases h0 : l.len = 0
  · exact .inr h0
  · refine .inl ?_
    have := (writeN_get h (off + l.len - 1)).2 (by omega) (by omega)
    cases e : t.get (off + l.len - 1) with
    | none => simp [e] at this
    | some v =>
      obtain ⟨u, hu, _⟩ := hc _ v e
      have := (Array.getElem?_eq_some_iff.1 hu).1
      omega
/-- Cells written into a block that is known: the step. -/
theorem write_stp (hR : Rel ρ h.get w) {id : Nat} {o : AO} {t t' : T AV} (hid : h.get id = some o) (ht : o.tr = some t) {b C : Nat} (hb : ρ id = some (b, C)) {l : AVs} {m : List Value} (hm : VsRel ρ l m) (h1 : l.ones = true) {off : Nat}
    (hw : writeN l off t = some t') : ∃ w', (storeCells ⟨b, off, none⟩ m).run P w = .ok () w' ∧ Stp ρ ρ h.get (h.put id (o.setTr t')).get w w' nx nx := by
  obtain ⟨b', C', ob, k1, k2, k3⟩ := hR.has id o hid
  rw [hb] at k1; cases k1
  obtain ⟨c, rfl, hc⟩ := k3.tr ht
  have hlen := hm.len
  have hle := writeN_lt hc hw
  have hle' : off + m.length ≤ c.size ∨ m = [] := by
    rcases hle with h2 | h2
    · exact .inl (by omega)
    · exact .inr (List.eq_nil_of_length_eq_zero (by omega))
  have hc' := hc.write hm hw hle'
  have hone := hm.ones h1
  have hsz : (c.toList.take off ++ m ++ c.toList.drop (off + m.length)).toArray.size = c.size ∨ m = [] := by
    rcases hle' with h2 | h2
    · left; simp; omega
    · exact .inr h2
  have fin : ∀ c', c'.size = c.size → CRel ρ t' c' → ORel ρ C (o.setTr t') (.cells c' o.ty (0, 0)) := by
    intro c' hs hq
    cases o with
    | cells t0 n0 e =>
      obtain ⟨c0, e0, q1, q2⟩ := k3
      cases e0
      exact ⟨c', rfl, by rw [hs]; exact q1, hq⟩
    | grow t0 n z e =>
      obtain ⟨c0, e0, q1, q2, q3, q4, q5⟩ := k3
      cases e0
      simp only [AO.tr] at ht; cases ht
      refine ⟨c', rfl, q1, by rw [hs]; exact q2, q3, fun k => ?_, hq⟩
      obtain ⟨g1, g2⟩ := writeN_get hw k
      rw [← q4 k, g1]
      split
      · rename_i hk
        have := g2 hk.1 hk.2
        rw [this]
        simp only [iff_true]
        cases e : l.get (k - off) with
        | some _ => rfl
        | none =>
          exfalso
          have hh : ∀ (l : AVs) (j : Nat), j < l.len → l.get j ≠ none := by
            intro l
            induction l using AVs.rec (motive_1 := fun _ => True) with
            | nil => intro j hj; simp [AVs.len] at hj
            | cons a l _ ih =>
              intro j hj
              cases j with
              | zero => simp [AVs.get]
              | succ j => simp only [AVs.get]; exact ih j (by simp [AVs.len] at hj; omega)
            | _ => trivial
          exact hh l (k - off) (by omega) e
      · rfl
    | iter _ _ _ => simp [AO.tr] at ht
    | ro _ => simp [AO.tr] at ht
    | lp _ _ _ _ _ _ => simp [AO.tr] at ht
    | mps _ => simp [AO.tr] at ht
    | gl => simp [AO.tr] at ht
  by_cases hnil : m = []
  · subst hnil
    refine ⟨w, rfl, Stp.upd hR hid hb (o := .cells c o.ty (0, 0)) (fin c rfl ?_) w rfl rfl rfl rfl k2 (fun _ _ => rfl)⟩
    simpa using hc'
  · have hle2 : off + m.length ≤ c.size := hle'.resolve_right hnil
    have hst := run_storeCells_at P b off o.ty m 0 c w k2 (by simpa using hle2) hone
    simp only [Nat.add_zero] at hst
    refine ⟨_, hst, Stp.upd hR hid hb (o := .cells (c.toList.take off ++ m ++ c.toList.drop (off + m.length)).toArray o.ty (0, 0)) (fin _ (hsz.resolve_right hnil) hc') _ rfl rfl rfl (by simp [World.setRow]) ?_ ?_⟩
    · simp [World.setRow, Array.getElem?_modify, k2]
    · intro k hk
      simp only [World.setRow, Array.getElem?_modify]
      rw [if_neg (Ne.symm hk)]
end Go.Proofs.YteogphbdpjnjoaaGreat
namespace Go.Proofs.YteogphbdpjnjoaaGreat
open Go.RowKit
variable {ρ : Map} {P : Program} {N : Nat} {sl : T AV} {a : Act} {h : T AO} {w : World} {nx : Nat}

/-- Values as cells, from a place on. -/
noncomputable def ofA : AVs → Nat → T AV → T AV
  | .nil, _, t => t
  | .cons v l, k, t => (t.put k v).seq fun t => ofA l (Nat.succ k) t
theorem ofA_cons (v : AV) (l : AVs) (k : Nat) (t : T AV) : ofA (.cons v l) k t = ofA l (k + 1) (t.put k v) := by simp only [ofA, T.seq_eq]
theorem ofA_get : ∀ {l : AVs} {off : Nat} {t : T AV} (k : Nat), (ofA l off t).get k = if off ≤ k ∧ k < off + l.len then l.get (k - off) else t.get k
  | .nil, off, t, k => by
    have hl : AVs.nil.len = 0 := rfl
    rw [if_neg (by omega)]; rfl
  | .cons v l, off, t, k => by
    have hl : (AVs.cons v l).len = l.len + 1 := rfl
    rw [ofA_cons, ofA_get k, T.get_put]
    by_cases hk : k = off
    · subst hk
      rw [if_neg (by omega), if_pos rfl, if_pos (by omega)]
      simp [AVs.get]
    · rw [if_neg hk]
      by_cases h3 : off + 1 ≤ k ∧ k < off + 1 + l.len
      · rw [if_pos h3, if_pos (by omega)]
        obtain ⟨j, hj⟩ : ∃ j, k - off = j + 1 := ⟨k - off - 1, by omega⟩
        rw [hj, show k - (off + 1) = j by omega]; rfl
      · rw [if_neg h3, if_neg (by omega)]
theorem avs_some : ∀ (l : AVs) (j : Nat), j < l.len → (l.get j).isSome = true := by
  intro l
  induction l using AVs.rec (motive_1 := fun _ => True) with
  | nil => intro j hj; simp [AVs.len] at hj
  | cons a l _ ih =>
    intro j hj
    cases j with
    | zero => simp [AVs.get]
    | succ j => simp only [AVs.get]; exact ih j (by simp [AVs.len] at hj; omega)
  | _ => trivial
theorem CRel.of_avs {l : AVs} {m : List Value} (hm : VsRel ρ l m) {c : Array Value} (hc : ∀ k, k < m.length → c[k]? = m[k]?) : CRel ρ (ofA l 0 .nil) c := by
  intro k v e
  rw [ofA_get, T.get_nil] at e
  split at e
  · rename_i hk
    obtain ⟨u, hu, hr⟩ := hm.at e
    have := hm.len
    exact ⟨u, by rw [hc k (by omega)]; exact hu, hr⟩
  · cases e
theorem VsRel.mono' {ρ' : Map} (h : ρ.le ρ') {l : AVs} {m : List Value} (k : VsRel ρ l m) : VsRel ρ' l m := VsRel.mono h l m k
/-- A new block of cells. -/
theorem new_stp (hR : Rel ρ h.get w) (hf : ρ nx = none) (e : TypeId) {l : AVs} {m : List Value} (hm : VsRel ρ l m) (c : Array Value) (hc : ∀ k, k < m.length → c[k]? = m[k]?) (hsz : c.size = m.length) (w' : World)
    (hos : w'.os = w.os) (ht : w'.tape = w.tape) (hout : w'.output = w.output) (hh : w'.heap = w.heap.push (.cells c e)) :
    Stp ρ (ρ.set nx (w.heap.size, 0)) h.get (h.put nx (.cells (ofA l 0 .nil) l.len e)).get w w' nx (nx + 1) :=
  Stp.new_ hR hf (.cells c e) (.cells (ofA l 0 .nil) l.len e) 0 ⟨c, rfl, by rw [hsz, hm.len], CRel.of_avs (hm.mono' (Map.set_le hf)) hc⟩ w' hos ht hout hh
theorem set_self (ρ : Map) (id : Nat) (x : Nat × Nat) : (ρ.set id x) id = some x := by simp [Map.set]
/-- One value, in a new block. -/
noncomputable def evBox (h : T AO) (nx : Nat) (t : TypeId) (v : AV) : R := (h.put nx (.cells (ofA v.cells 0 .nil) v.cells.len t)).seq fun h => .ok (.p nx 0) h (Nat.succ nx)
theorem evBox_run (hR : Rel ρ h.get w) {t : TypeId} {v : AV} {v' : Value} (hv : VRel ρ v v') {r : AV} {h' : T AO} {nx' : Nat} (e : evBox h nx t v = .ok r h' nx') (hf : Fr ρ nx nx') :
    ∃ ρ' u w', (newVar t v').run P w = .ok u w' ∧ VRel ρ' r (.pointer (some u)) ∧ Stp ρ ρ' h.get h'.get w w' nx nx' := by
  simp only [evBox, T.seq_eq] at e
  cases e
  have hf' : ρ nx = none := hf nx (Nat.le_refl _) (Nat.lt_succ_self _)
  refine ⟨ρ.set nx (w.heap.size, 0), ⟨w.heap.size, 0, none⟩, w.alloc (.cells v'.cells t), rfl, ⟨w.heap.size, 0, set_self _ _ _, rfl⟩, new_stp hR hf' t hv.cells v'.cells (fun k hk => by simp) (by simp) _ rfl rfl rfl rfl⟩
/-- A row of n equal elements. -/
def repl : Nat → AVs → AVs
  | 0, _ => .nil
  | n + 1, z => z.app (repl n z)
theorem repl_rel {z : AVs} {m : List Value} (hz : VsRel ρ z m) : ∀ n, VsRel ρ (repl n z) (List.replicate n m).flatten
  | 0 => rfl
  | n + 1 => by rw [List.replicate_succ, List.flatten_cons]; exact hz.app (repl_rel hz n)
theorem flat_getv (m : List Value) : ∀ (n k : Nat), k < n * m.length → (List.replicate n m).flatten[k]? = m[k % m.length]?
  | 0, k, h => by omega
  | n + 1, k, h => by
    rw [List.replicate_succ, List.flatten_cons]
    rw [Nat.succ_mul] at h
    by_cases hk : k < m.length
    · rw [List.getElem?_append_left hk, Nat.mod_eq_of_lt hk]
    · rw [List.getElem?_append_right (by omega), flat_getv m n (k - m.length) (by omega), ← Nat.mod_eq_sub_mod (a := k) (b := m.length) (by omega)]
theorem rangeZ (zero : Array Value) (n : Nat) (hz : 0 < zero.size) : ((Array.range (n * zero.size)).map (fun i => zero[i % zero.size]!)).toList = (List.replicate n zero.toList).flatten := by
  apply List.ext_getElem?
  intro k
  by_cases hk : k < n * zero.size
  · rw [flat_getv zero.toList n k (by simpa using hk)]
    have hlt : k % zero.size < zero.size := Nat.mod_lt _ hz
    simp [hk, hlt]
  · have h1 : ((Array.range (n * zero.size)).map (fun i => zero[i % zero.size]!)).toList.length ≤ k := by simp; omega
    have h2 : (List.replicate n zero.toList).flatten.length ≤ k := by simp; omega
    rw [List.getElem?_eq_none h1, List.getElem?_eq_none h2]
/-- A row that is written out. -/
def rowTy (P : Program) (t : TypeId) : Option (TypeId × Nat × AV) :=
  match P.underlying t with
  | some (.slice e) => match sizeTy P e, zeroTy P e with
    | some n, some z => bif Nat.beq z.cells.len n && Nat.ble 1 n then some (e, n, z) else none
    | _, _ => none
  | _ => none
theorem rowTy_is {t e : TypeId} {n : Nat} {z : AV} (h : rowTy P t = some (e, n, z)) : P.underlying t = some (.slice e) ∧ sizeTy P e = some n ∧ zeroTy P e = some z ∧ z.cells.len = n ∧ 0 < n := by
  unfold rowTy at h
  split at h
  · rename_i e' hu
    split at h
    · rename_i n' z' h1 h2
      obtain ⟨h3, h4⟩ := bif_some h
      cases h4
      rw [Bool.and_eq_true, Nat.beq_eq, Nat.ble_eq] at h3
      exact ⟨hu, h1, h2, h3.1, h3.2⟩
    · cases h
  · cases h
noncomputable def evRow (P : Program) (h : T AO) (nx : Nat) (t : TypeId) (len : Nat) (l : List (Nat × AV)) : R :=
  match rowTy P t with
  | some (e, n, z) => bif Nat.ble (Nat.mul len n) 16777216 then
      match evFill (fun i => some (i * n, n)) (repl len z.cells) l with
      | some c => (h.put nx (.cells (ofA c 0 .nil) c.len e)).seq fun h => .ok (.sl nx 0 len len) h (Nat.succ nx)
      | none => .bad
    else .bad
  | none => .bad
theorem bif_ok {b : Bool} {x : R} {v : AV} {h : T AO} {n : Nat} (e : (bif b then x else .bad) = .ok v h n) : b = true ∧ x = .ok v h n := by cases b <;> simp at e; exact ⟨rfl, e⟩
theorem evRow_run (hR : Rel ρ h.get w) {t : TypeId} {len : Nat} {l : List (Nat × AV)} {m : Array (Nat × Value)} (hp : PRel ρ l m.toList) {r : AV} {h' : T AO} {nx' : Nat} (e : evRow P h nx t len l = .ok r h' nx') (hf : Fr ρ nx nx') :
    ∃ ρ' u w', (Instr.buildSlice t len m).run P w = .ok u w' ∧ VRel ρ' r u ∧ Stp ρ ρ' h.get h'.get w w' nx nx' := by
  unfold evRow at e
  split at e
  · rename_i el n z hrow
    obtain ⟨hu, hn, hz, hzl, hn0⟩ := rowTy_is hrow
    obtain ⟨h1, e⟩ := bif_ok e
    rw [Nat.ble_eq] at h1
    split at e
    · rename_i c hc
      rw [T.seq_eq] at e; cases e
      have hf' : ρ nx = none := hf nx (Nat.le_refl _) (Nat.lt_succ_self _)
      obtain ⟨z', hzr, hzv⟩ := zero_run (ρ := ρ) hz
      have hzc := hzv.cells
      have hzs : z'.cells.size = n := by have := hzc.len; rw [hzl] at this; simpa using this.symm
      have hmul : len * n ≤ 16777216 := h1
      have hnot : ¬ (2 ^ 24 < len * n) := by omega
      have hcells : ((Array.range (len * n)).map (fun i => z'.cells[i % z'.cells.size]!)).toList = (List.replicate len z'.cells.toList).flatten := by rw [← hzs]; exact rangeZ z'.cells len (by omega)
      obtain ⟨d, hd1, hd2⟩ := evFill_run (place := fun i => some (i * n, n)) hp (d := (Array.range (len * n)).map (fun i => z'.cells[i % z'.cells.size]!)) (by rw [hcells]; exact repl_rel hzc len) hc
      refine ⟨ρ.set nx (w.heap.size, 0), .slice (some ⟨w.heap.size, 0, none⟩) len len, w.alloc (.cells d el), ?_, ⟨w.heap.size, 0, set_self _ _ _, rfl⟩, new_stp hR hf' el hd2 d (fun k hk => by simp) (by simp) _ rfl rfl rfl rfl⟩
      by_cases hl0 : len = 0
      · subst hl0
        have he : ∀ q : Array Value, ((Array.range (0 * n)).map (fun i => q[i % q.size]!)) = #[] := fun q => by simp
        rw [he] at hd1
        simp only [Instr.buildSlice, Sem.run_bind, run_underlying hu, Result.andThen_ok, sizeOf_run hn, gt_iff_lt, hnot, if_false, Nat.zero_mul, if_true, Sem.run_pure, newRow, run_newObj]
        simp only [Nat.zero_mul] at he
        simp only [he, hd1, Sem.run_bind, Sem.run_pure, Result.andThen_ok, run_newObj]
        rfl
      · have hne : len * n ≠ 0 := by
          have : 0 < len * n := Nat.mul_pos (by omega) hn0
          omega
        simp only [Instr.buildSlice, Sem.run_bind, run_underlying hu, Result.andThen_ok, sizeOf_run hn, gt_iff_lt, hnot, if_false, hne, hzr, Sem.run_pure, hd1, newRow, run_newObj]
        rfl
    · cases e
  · cases e
end Go.Proofs.YteogphbdpjnjoaaGreat
namespace Go.Proofs.YteogphbdpjnjoaaGreat
open Go.RowKit
variable {ρ : Map} {P : Program} {N : Nat} {sl : T AV} {a : Act} {h : T AO} {w : World} {nx : Nat}

def bytesAV : Nat → Nat → AVs
  | 0, _ => .nil
  | n + 1, d => .cons (.i .u8 (.ofNat (d % 256))) (bytesAV n (d / 256))
theorem bytesAV_rel : ∀ n d, VsRel ρ (bytesAV n d) ((bytesOf n d).map fun b => Value.int .u8 b.toNat)
  | 0, _ => rfl
  | n + 1, d => by
    refine ⟨_, _, rfl, ?_, bytesAV_rel n (d / 256)⟩
    simp only [VRel]
    rw [ofNat_toNat (by omega)]; rfl
/-- What a row is given: how many elements, their cells. -/
noncomputable def evNews (h : T AO) (z : Nat) (x : AV) : Option (Nat × AVs) :=
  match x with
  | .ns => some (0, .nil)
  | .s n d => some (n, bytesAV n d)
  | .sl id off len _ => match h.get id with
    | some o => match o.rd with | some t => (match readN t (Nat.mul len z) off with | some l => some (len, l) | none => none) | none => none
    | none => none
  | .su id off len => match h.get id with
    | some o => match o.rd with | some t => (match readN t (Nat.mul len z) off with | some l => (bif Nat.ble 1 len then some (len, l) else none) | none => none) | none => none
    | none => none
  | .gs id len => match h.get id with
    | some o => match o.rd with | some t => (match readN t (Nat.mul len z) 0 with | some l => some (len, l) | none => none) | none => none
    | none => none
  | _ => none
theorem loadCells_same {w w' : World} (hw : w'.heap = w.heap) {ad : Addr} {m : List Value} (hc : ∀ j u, m[j]? = some u → w.cell? (ad.add j) = some u) : (loadCells ad m.length).run P w' = .ok m.toArray w' :=
  run_loadCells_list (P := P) w' ad m fun j u e => by have := hc j u e; simpa [World.cell?, hw] using this
theorem evNews_run (hR : Rel ρ h.get w) {z : Nat} {x : AV} {x' : Value} (hx : VRel ρ x x') {n : Nat} {l : AVs} (e : evNews h z x = some (n, l)) (hz : (∃ k d, x = .s k d) → z = 1) :
    ∃ m : List Value, m.length = n * z ∧ VsRel ρ l m ∧ (Builtin.lenOf x').run P w = .ok n w ∧ ∀ w', w'.heap = w.heap → (Builtin.firstCells z n x').run P w' = .ok m.toArray w' := by
  have hb : ∀ {id off len : Nat} {b C c : Nat} {l : AVs} {t : T AV} {o : AO}, ρ id = some (b, C) → h.get id = some o → o.rd = some t → readN t (len * z) off = some l → ∃ m : List Value, m.length = len * z ∧ VsRel ρ l m ∧ ∀ w', w'.heap = w.heap →
      (Builtin.firstCells z len (.slice (some ⟨b, off, none⟩) len c)).run P w' = .ok m.toArray w' := by
    intro id off len b C c l t o hr hid ht hl
    obtain ⟨cc, _, _, hblk, hc⟩ := rel_read hR hid ht hr
    obtain ⟨m, hm, hmr, hcell, _⟩ := readN_run (P := P) hblk hc hl
    refine ⟨m, hm, hmr, fun w' hw => ?_⟩
    have := loadCells_same (P := P) hw hcell
    rw [hm] at this
    simp only [Builtin.firstCells]; exact this
  unfold evNews at e
  split at e
  · cases e; cases hx
    exact ⟨[], by simp, rfl, rfl, fun w' _ => by simp [Builtin.firstCells]⟩
  · rename_i k d
    cases e
    have hz1 := hz ⟨_, _, rfl⟩
    subst hz1
    obtain ⟨s, rfl, hs⟩ := hx
    refine ⟨(bytesOf n d).map fun b => Value.int .u8 b.toNat, by simp [bytesOf_length], bytesAV_rel n d, by simp [Builtin.lenOf, hs.size], fun w' _ => ?_⟩
    have hex : (s.extract 0 n).data = s.data := by
      rw [ByteArray.data_extract, ← hs.size]
      exact Array.extract_eq_self_of_le (Nat.le_refl _)
    simp only [Builtin.firstCells, hex, Sem.run_pure]
    rw [← hs.by_]; congr 1
    apply Array.ext'
    simp
  · rename_i id off len cap
    split at e
    · rename_i o hid
      split at e
      · rename_i t ht
        split at e <;> cases e
        rename_i hl
        obtain ⟨b, C, hr, rfl⟩ := hx
        obtain ⟨m, h1, h2, h3⟩ := hb (c := cap) hr hid ht hl
        exact ⟨m, h1, h2, rfl, h3⟩
      · cases e
    · cases e
  · rename_i id off len
    split at e
    · rename_i o hid
      split at e
      · rename_i t ht
        split at e
        · rename_i l' hl
          obtain ⟨hp, e⟩ := bif_some e
          cases e
          rw [Nat.ble_eq] at hp
          obtain ⟨b, C, oo, c, hr, rfl, _, ho⟩ := hx
          have := ho (by omega); subst this
          obtain ⟨m, h1, h2, h3⟩ := hb (c := c) hr hid ht hl
          exact ⟨m, h1, h2, rfl, h3⟩
        · cases e
      · cases e
    · cases e
  · rename_i id len
    split at e
    · rename_i o hid
      split at e
      · rename_i t ht
        split at e <;> cases e
        rename_i hl
        obtain ⟨b, C, hr, rfl, _⟩ := hx
        obtain ⟨m, h1, h2, h3⟩ := hb (c := C) hr hid ht hl
        exact ⟨m, h1, h2, rfl, h3⟩
      · cases e
    · cases e
  · cases e
/-- A type that grows: its elements' type, cells, bytes, zero; whether a text is given. -/
def appTy (P : Program) (t u : TypeId) : Option (TypeId × Nat × Nat × AV) :=
  match rowTy P t, P.underlying u with
  | some (e, n, z), some (.slice _) => match P.info? e with | some i => some (e, n, i.bytes, z) | none => none
  | some (e, n, z), some .string => bif Nat.beq n 1 then match P.info? e with | some i => some (e, n, i.bytes, z) | none => none else none
  | _, _ => none
structure AppTy (P : Program) (t u e : TypeId) (n b : Nat) (z : AV) : Prop where
  ht : P.underlying t = some (.slice e)
  hz : ∃ (i : TypeInfo) (z' : Value), P.info? e = some i ∧ i.size = n ∧ i.bytes = b ∧ i.zero = some z' ∧ z'.cells.size = n
  pos : 0 < n
  hu : (∃ d, P.underlying u = some (.slice d)) ∨ P.underlying u = some .string
  one : P.underlying u = some .string → n = 1
theorem appTy_is {t u e : TypeId} {n b : Nat} {z : AV} (h : appTy P t u = some (e, n, b, z)) : AppTy P t u e n b z := by
  have key : ∀ {e n z}, rowTy P t = some (e, n, z) → ∀ i, P.info? e = some i → P.underlying t = some (.slice e) ∧ 0 < n ∧ ∃ z' : Value, i.size = n ∧ i.zero = some z' ∧ z'.cells.size = n := by
    intro e n z hr i hi
    obtain ⟨h1, h2, h3, h4, h5⟩ := rowTy_is hr
    unfold sizeTy at h2; unfold zeroTy at h3
    simp only [hi] at h2 h3
    cases g : i.zero with
    | none => simp [g] at h3
    | some z' =>
      simp only [g] at h3
      have := (ofV_rel (ρ := fun _ => none) h3).cells.len
      rw [h4] at this
      exact ⟨h1, h5, z', by simpa using h2, rfl, by simpa using this.symm⟩
  unfold appTy at h
  split at h
  · rename_i e' n' z' d hr hu
    split at h <;> cases h
    rename_i i hi
    obtain ⟨k1, k2, zz, k3, k4, k5⟩ := key hr i hi
    exact ⟨k1, ⟨i, zz, hi, k3, rfl, k4, k5⟩, k2, .inl ⟨_, hu⟩, fun e => by rw [hu] at e; cases e⟩
  · rename_i e' n' z' hr hu
    obtain ⟨h1, h⟩ := bif_some' h
    rw [Nat.beq_eq] at h1
    split at h <;> cases h
    rename_i i hi
    obtain ⟨k1, k2, zz, k3, k4, k5⟩ := key hr i hi
    exact ⟨k1, ⟨i, zz, hi, k3, rfl, k4, k5⟩, k2, .inr hu, fun _ => h1⟩
  · cases h
theorem append_fit {t u ty e : TypeId} {z b : Nat} {zv : AV} (hT : AppTy P t u e z b zv) {base : Option Addr} {sLen sCap n : Nat} {x : Value} {m : List Value} (hl : (Builtin.lenOf x).run P w = .ok n w)
    (hf : (Builtin.firstCells z n x).run P w = .ok m.toArray w) (hn : sLen + n ≤ sCap) {w' : World} (hs : match base with | some ad => (storeCells (ad.add (sLen * z)) m).run P w = .ok () w' | none => w' = w) :
    (Builtin.append_ #[t, u] ty #[.slice base sLen sCap, x]).run P w = .ok (.slice base (sLen + n) sCap) w' := by
  obtain ⟨i, z', hi, h1, h2, h3, h4⟩ := hT.hz
  subst h1
  cases base with
  | none =>
    subst hs
    rcases hT.hu with ⟨d, hu⟩ | hu <;> simp [Builtin.append_, run_underlying hT.ht, run_underlying hu, sizeOf, typeInfo, hi, hl, hn, hf]
  | some ad => rcases hT.hu with ⟨d, hu⟩ | hu <;> simp [Builtin.append_, run_underlying hT.ht, run_underlying hu, sizeOf, typeInfo, hi, hl, hn, hf, hs]
theorem append_grow {t u ty e : TypeId} {z b : Nat} {zv : AV} (hT : AppTy P t u e z b zv) {base : Option Addr} {sLen sCap n : Nat} {x : Value} {m old : List Value} (hl : (Builtin.lenOf x).run P w = .ok n w)
    (hf : ∀ w', w'.heap = w.heap → (Builtin.firstCells z n x).run P w' = .ok m.toArray w') (ho : ∀ w', w'.heap = w.heap → (Builtin.firstCells z sLen (.slice base sLen sCap)).run P w' = .ok old.toArray w') (hn : sCap < sLen + n)
    (hb : 2 * (sLen + n) * b ≤ 281474976710656) (h63 : sLen + n ≤ 9223372036854775807) :
    ∃ C c, sLen + n ≤ C ∧ c.size = C * z - (sLen + n) * z ∧ (Builtin.append_ #[t, u] ty #[.slice base sLen sCap, x]).run P w = .ok (.slice (some ⟨w.heap.size, 0, none⟩) (sLen + n) C) (w.drew.alloc (.cells (old.toArray ++ m.toArray ++ c) e)) := by
  obtain ⟨i, z', hi, h1, h2, h3, h4⟩ := hT.hz
  subst h1; subst h2
  have hcap : Builtin.nextslicecap (sLen + n) sCap * i.bytes ≤ 281474976710656 := Nat.le_trans (Nat.mul_le_mul_right _ (nextslicecap_le hn)) hb
  have hnn : ¬ (sLen + n ≤ sCap) := by omega
  have h63' : ¬ (9223372036854775807 < ((sLen : Int) + (n : Int))) := by omega
  have h48' : ¬ (281474976710656 < Builtin.nextslicecap (sLen + n) sCap * i.bytes) := by omega
  refine ⟨grownCap w (sLen + n) sCap e, Builtin.zeroCells z'.cells (grownCap w (sLen + n) sCap e - (sLen + n)), grownCap_ge _ _ _ _, ?_, ?_⟩
  · rw [size_zeroCells, h4, Nat.sub_mul]
  · have hf' := hf w.drew rfl
    have ho' := ho w.drew rfl
    rcases hT.hu with ⟨d, hu⟩ | hu <;> simp [Builtin.append_, run_underlying hT.ht, run_underlying hu, sizeOf, typeInfo, zeroValue, hi, h3, hl, hnn, h63', h48', Question.forced, hf', ho', newRow, grownCap] <;> (congr 2; apply Array.ext'; simp [List.append_assoc])
end Go.Proofs.YteogphbdpjnjoaaGreat
namespace Go.Proofs.YteogphbdpjnjoaaGreat
open Go.RowKit
variable {ρ : Map} {P : Program} {N : Nat} {sl : T AV} {a : Act} {h : T AO} {w : World} {nx : Nat}

/-- Small enough. -/
noncomputable def fitB (need bytes : Nat) : Bool := Nat.ble (Nat.mul (Nat.mul 2 need) bytes) 281474976710656 && Nat.ble need 9223372036854775807
noncomputable def evAppend (P : Program) (h : T AO) (nx : Nat) (t u : TypeId) (s x : AV) : R :=
  match appTy P t u with
  | some (e, z, by_, _) => match evNews h z x with
    | some (n, l) => bif (match x with | .s _ _ => Nat.beq z 1 | _ => true) then match s with
      | .ns => bif Nat.beq n 0 then .ok .ns h nx else bif fitB n by_ then (h.put nx (.grow (ofA l 0 .nil) (Nat.mul n z) z e)).seq fun h => .ok (.gs nx n) h (Nat.succ nx) else .bad
      | .sl id off len cap => match h.get id with
        | some o => match o.tr with
          | some tr => bif Nat.ble (Nat.add len n) cap then
              match (bif l.ones then writeN l (Nat.add off (Nat.mul len z)) tr else none) with
              | some t' => (h.put id (o.setTr t')).seq fun h => .ok (.sl id off (Nat.add len n) cap) h nx
              | none => .bad
            else bif fitB (Nat.add len n) by_ then match readN tr (Nat.mul len z) off with
              | some old => (h.put nx (.grow (ofA (old.app l) 0 .nil) (Nat.mul (Nat.add len n) z) z e)).seq fun h => .ok (.gs nx (Nat.add len n)) h (Nat.succ nx)
              | none => .bad
            else .bad
          | none => .bad
        | none => .bad
      | .gs id len => match h.get id with
        | some (.grow tr nk z' e') => bif Nat.beq z' z && l.ones then
            bif Nat.ble (Nat.mul (Nat.add len n) z) nk then
              match writeN l (Nat.mul len z) tr with
              | some t' => (h.put id (.grow t' nk z' e')).seq fun h => .ok (.gs id (Nat.add len n)) h nx
              | none => .bad
            else bif Nat.ble (Nat.mul len z) nk && (Nat.beq e' e && fitB (Nat.add len n) by_) then
              ((h.del id).put nx (.grow (ofA l (Nat.mul len z) tr) (Nat.mul (Nat.add len n) z) z e)).seq fun h => .ok (.gs nx (Nat.add len n)) h (Nat.succ nx)
            else .bad
          else .bad
        | _ => .bad
      | _ => .bad
      else .bad
    | none => .bad
  | none => .bad
theorem fitB_is {n b : Nat} (h : fitB n b = true) : 2 * n * b ≤ 281474976710656 ∧ n ≤ 9223372036854775807 := by
  unfold fitB at h
  rw [Bool.and_eq_true, Nat.ble_eq, Nat.ble_eq] at h; exact h
/-- A new row that may grow. -/
theorem grow_stp (hR : Rel ρ h.get w) (hf : ρ nx = none) (e : TypeId) {l : AVs} {m : List Value} (hm : VsRel ρ l m) {n z C : Nat} (hz : 0 < z) (hl : l.len = n * z) (hC : n ≤ C) (c : Array Value) (hs : c.size = C * z - n * z) (w' : World)
    (hos : w'.os = w.os) (ht : w'.tape = w.tape) (hout : w'.output = w.output) (hh : w'.heap = w.heap.push (.cells (m.toArray ++ c) e)) :
    Stp ρ (ρ.set nx (w.heap.size, C)) h.get (h.put nx (.grow (ofA l 0 .nil) (n * z) z e)).get w w' nx (nx + 1) := by
  have hml := hm.len
  have hmul : n * z ≤ C * z := Nat.mul_le_mul_right _ hC
  have ho : ORel (ρ.set nx (w.heap.size, C)) C (.grow (ofA l 0 .nil) (n * z) z e) (.cells (m.toArray ++ c) e (0, 0)) := by
    refine ⟨m.toArray ++ c, rfl, hz, by simp; omega, hmul, fun k => ?_, CRel.of_avs (hm.mono' (Map.set_le hf)) fun k hk => by simp [Array.getElem?_append, hk]⟩
    rw [ofA_get, T.get_nil]
    split
    · rename_i hk
      have := avs_some l (k - 0) (by omega)
      simp only [this, true_iff]; omega
    · simp only [Option.isSome_none, Bool.false_eq_true, false_iff]; omega
  exact Stp.new_ hR hf (.cells (m.toArray ++ c) e) _ C ho w' hos ht hout hh
/-- A block goes on under another name. -/
theorem move_stp (hR : Rel ρ h.get w) (hf : ρ nx = none) {id : Nat} {a0 a1 : AO} {b C D : Nat} {o : Obj} (hid : h.get id = some a0) (hr : ρ id = some (b, C)) (ho : ORel (ρ.set nx (b, D)) D a1 o) (w' : World)
    (hos : w'.os = w.os) (ht : w'.tape = w.tape) (hout : w'.output = w.output) (hs : w'.heap.size = w.heap.size) (hb : w'.heap[b]? = some o) (hk : ∀ k, k ≠ b → w'.heap[k]? = w.heap[k]?) :
    Stp ρ (ρ.set nx (b, D)) h.get ((h.del id).put nx a1).get w w' nx (nx + 1) := by
  have hle := Map.set_le (x := (b, D)) hf
  have hnid : id ≠ nx := fun e => by subst e; rw [hr] at hf; cases hf
  have own : ∀ j o1 b1 C1, h.get j = some o1 → ρ j = some (b1, C1) → j ≠ id → b1 ≠ b := by
    intro j o1 b1 C1 e1 k1 hj hbb; subst hbb
    exact hj (hR.inj j id o1 a0 b1 C1 C e1 hid k1 hr)
  refine ⟨⟨?_, ?_⟩, hle, ?_, Nat.le_succ _, hos, ht, hout, by omega, ?_, ?_⟩
  · intro j o' e
    rw [T.get_put, T.get_del] at e
    by_cases hj : j = nx
    · subst hj
      rw [if_pos rfl] at e; cases e
      exact ⟨b, D, o, set_self _ _ _, hb, ho⟩
    · rw [if_neg hj] at e
      by_cases hji : j = id
      · rw [if_pos hji] at e; cases e
      · rw [if_neg hji] at e
        obtain ⟨b', C', ob, h1, h2, h3⟩ := hR.has j o' e
        exact ⟨b', C', ob, hle _ _ h1, by rw [hk b' (own j o' b' C' e h1 hji)]; exact h2, h3.mono hle⟩
  · intro i j o1 o2 b1 C1 D1 e1 e2 k1 k2
    rw [T.get_put, T.get_del] at e1 e2
    unfold Map.set at k1 k2
    by_cases hi : i = nx <;> by_cases hj : j = nx
    · exact hi.trans hj.symm
    · rw [if_pos hi] at k1; rw [if_neg hj] at e2 k2; cases k1
      by_cases hji : j = id
      · rw [if_pos hji] at e2; cases e2
      · rw [if_neg hji] at e2; exact absurd rfl (own j o2 b D1 e2 k2 hji)
    · rw [if_neg hi] at e1 k1; rw [if_pos hj] at k2; cases k2
      by_cases hii : i = id
      · rw [if_pos hii] at e1; cases e1
      · rw [if_neg hii] at e1; exact absurd rfl (own i o1 b C1 e1 k1 hii)
    · rw [if_neg hi] at e1 k1; rw [if_neg hj] at e2 k2
      by_cases hii : i = id
      · rw [if_pos hii] at e1; cases e1
      · by_cases hji : j = id
        · rw [if_pos hji] at e2; cases e2
        · rw [if_neg hii] at e1; rw [if_neg hji] at e2
          exact hR.inj i j o1 o2 b1 C1 D1 e1 e2 k1 k2
  · intro j hj
    unfold Map.set
    rw [if_neg (by omega)]
  · intro k hkl hn
    exact hk k fun e => hn id a0 C hid (e ▸ hr)
  · intro j o1 b1 C1 e1 k1
    rw [T.get_put, T.get_del] at e1
    unfold Map.set at k1
    by_cases hj : j = nx
    · rw [if_pos hj] at k1; cases k1
      exact .inr ⟨id, a0, C, hid, hr⟩
    · rw [if_neg hj] at e1 k1
      by_cases hji : j = id
      · rw [if_pos hji] at e1; cases e1
      · rw [if_neg hji] at e1; exact .inr ⟨j, o1, C1, e1, k1⟩
/-- A row's first cells, and those behind them. -/
theorem CRel.more {tr : T AV} {cc c' : Array Value} (hc : CRel ρ tr cc) {l : AVs} {m : List Value} (hm : VsRel ρ l m) {L nk : Nat} (hk : ∀ k, (tr.get k).isSome = true → k < nk) (hle : nk ≤ L + m.length)
    (h1 : ∀ k, k < L → c'[k]? = cc[k]?) (h2 : ∀ j, j < m.length → c'[L + j]? = m[j]?) : CRel ρ (ofA l L tr) c' := by
  intro k v e
  have hml := hm.len
  rw [ofA_get] at e
  split at e
  · rename_i hkk
    obtain ⟨u, hu, hr⟩ := hm.at e
    refine ⟨u, ?_, hr⟩
    have := h2 (k - L) (by omega)
    rw [show L + (k - L) = k by omega] at this
    rw [this]; exact hu
  · rename_i hkk
    obtain ⟨u, hu, hr⟩ := hc k v e
    have := hk k (by rw [e]; rfl)
    exact ⟨u, by rw [h1 k (by omega)]; exact hu, hr⟩
theorem evAppend_run (hR : Rel ρ h.get w) {t u ty : TypeId} {s x : AV} {s' x' : Value} (hs : VRel ρ s s') (hx : VRel ρ x x') {r : AV} {h' : T AO} {nx' : Nat} (e : evAppend P h nx t u s x = .ok r h' nx') (hf : Fr ρ nx nx') :
    ∃ ρ' v w', (Builtin.append_ #[t, u] ty #[s', x']).run P w = .ok v w' ∧ VRel ρ' r v ∧ Stp ρ ρ' h.get h'.get w w' nx nx' := by
  unfold evAppend at e
  split at e
  · rename_i el z by_ zv hT
    have hT := appTy_is hT
    split at e
    · rename_i n l hl
      obtain ⟨hxz, e2⟩ := bif_ok e
      clear e; have e := e2; clear e2
      obtain ⟨m, hm, hmr, hlen, hfirst⟩ := evNews_run (P := P) hR hx hl (by rintro ⟨k, d, rfl⟩; simpa [Nat.beq_eq] using hxz)
      have hll := hmr.len
      split at e
      · cases hs
        by_cases hn : n = 0
        · subst hn
          rw [beq_t rfl, cond_true] at e; cases e
          exact ⟨ρ, _, w, append_fit hT (base := none) hlen (hfirst w rfl) (by omega) rfl, rfl, Stp.refl hR⟩
        · rw [beq_f hn, cond_false] at e
          obtain ⟨hfit, e⟩ := bif_ok e
          rw [T.seq_eq] at e; cases e
          obtain ⟨f1, f2⟩ := fitB_is hfit
          have hf' : ρ nx = none := hf nx (Nat.le_refl _) (Nat.lt_succ_self _)
          obtain ⟨C, c, hC, hcs, hrun⟩ := append_grow (ty := ty) hT (base := none) (sLen := 0) (sCap := 0) (old := []) hlen hfirst (fun w' _ => by simp [Builtin.firstCells]) (by omega) (by simpa using f1) (by simpa using f2)
          refine ⟨_, _, _, hrun, ⟨w.heap.size, C, set_self _ _ _, ?_, ?_⟩, grow_stp hR hf' el hmr hT.pos (by omega) (by omega) c (by simpa using hcs) _ rfl rfl rfl ?_⟩
          · simp
          · omega
          · show w.heap.push _ = _; simp
      · rename_i id off len cap
        obtain ⟨b, C, hb, rfl⟩ := hs
        split at e
        · rename_i o hid
          split at e
          · rename_i tr htr
            by_cases hroom : len + n ≤ cap
            · have hq : Nat.ble (Nat.add len n) cap = true := by rw [Nat.ble_eq]; exact hroom
              rw [hq, cond_true] at e
              split at e
              · rename_i t' ht'
                obtain ⟨h1, ht'⟩ := bif_some' ht'
                rw [T.seq_eq] at e; cases e
                obtain ⟨w', hst, hstp⟩ := write_stp (P := P) (nx := nx) hR hid htr hb hmr h1 ht'
                refine ⟨ρ, _, w', append_fit hT (base := some ⟨b, off, none⟩) hlen (hfirst w rfl) hroom (by simp only [addr_add]; exact hst), ⟨b, C, hb, rfl⟩, hstp⟩
              · cases e
            · have hq : Nat.ble (Nat.add len n) cap = false := by
                rw [ble_eq]; exact decide_eq_false hroom
              rw [hq, cond_false] at e
              obtain ⟨hfit, e2⟩ := bif_ok e
              clear e; have e := e2; clear e2
              obtain ⟨f1, f2⟩ := fitB_is hfit
              split at e
              · rename_i old hold
                rw [T.seq_eq] at e; cases e
                have hf' : ρ nx = none := hf nx (Nat.le_refl _) (Nat.lt_succ_self _)
                obtain ⟨cc, hblk, hcr⟩ := rel_block hR hid htr hb
                obtain ⟨om, hom, homr, hocell, _⟩ := readN_run (P := P) hblk hcr hold
                obtain ⟨C2, c, hC, hcs, hrun⟩ := append_grow (ty := ty) hT (base := some ⟨b, off, none⟩) (sLen := len) (sCap := cap) (old := om) hlen hfirst (fun w' hw => by
                  have := loadCells_same (P := P) hw hocell
                  rw [hom] at this
                  simp only [Builtin.firstCells]; exact this) (by omega) f1 f2
                have hnz : (old.app l).len = (len + n) * z := by
                  have := (homr.app hmr).len
                  rw [this, List.length_append, hom, hm, Nat.add_mul]; rfl
                refine ⟨_, _, _, hrun, ⟨w.heap.size, C2, set_self _ _ _, rfl, hC⟩, grow_stp hR hf' el (homr.app hmr) hT.pos hnz hC c hcs _ rfl rfl rfl ?_⟩
                show w.heap.push _ = _; simp
              · cases e
          · cases e
        · cases e
      · rename_i id len
        obtain ⟨b, C, hb, rfl, hlC⟩ := hs
        split at e
        · rename_i tr nk z' e' hid
          obtain ⟨h1, e2⟩ := bif_ok e
          clear e; have e := e2; clear e2
          rw [Bool.and_eq_true, Nat.beq_eq] at h1
          obtain ⟨hz', hones⟩ := h1
          have hz2 := hz'.symm; clear hz'; subst hz2
          obtain ⟨b', C', ob, k1, k2, k3⟩ := hR.has id _ hid
          rw [hb] at k1; cases k1
          obtain ⟨cc, rfl, q1, q2, q3, q4, q5⟩ := k3
          by_cases hroom : (len + n) * z ≤ nk
          · have hq : Nat.ble (Nat.mul (Nat.add len n) z) nk = true := by rw [Nat.ble_eq]; exact hroom
            rw [hq, cond_true] at e
            split at e
            · rename_i t' ht'
              rw [T.seq_eq] at e; cases e
              obtain ⟨w', hst, hstp⟩ := write_stp (P := P) (nx := nx) hR hid (o := .grow tr nk z e') rfl hb hmr hones ht'
              have hfitC : len + n ≤ C := Nat.le_of_mul_le_mul_right (Nat.le_trans hroom q3) q1
              refine ⟨ρ, _, w', append_fit hT (base := some ⟨b, 0, none⟩) hlen (hfirst w rfl) hfitC (by simp only [addr_add, Nat.zero_add]; exact hst), ⟨b, C, hb, rfl, hfitC⟩, hstp⟩
            · cases e
          · have hq : Nat.ble (Nat.mul (Nat.add len n) z) nk = false := by
              rw [ble_eq]; exact decide_eq_false hroom
            rw [hq, cond_false] at e
            obtain ⟨h2, e⟩ := bif_ok e
            rw [Bool.and_eq_true, Bool.and_eq_true, Nat.ble_eq, Nat.beq_eq] at h2
            obtain ⟨hle, rfl, hfit⟩ := h2
            obtain ⟨f1, f2⟩ := fitB_is hfit
            rw [T.seq_eq] at e; cases e
            have hf' : ρ nx = none := hf nx (Nat.le_refl _) (Nat.lt_succ_self _)
            have hmul : len * z ≤ C * z := Nat.mul_le_mul_right _ hlC
            have hlz : l.len = n * z := by rw [hll, hm]
            have hL : len * z + m.length = (len + n) * z := by rw [hm, Nat.add_mul]
            have hnk : nk ≤ len * z + m.length := by omega
            have hsome : ∀ k, ((ofA l (len * z) tr).get k).isSome = true ↔ k < (len + n) * z := by
              intro k
              rw [ofA_get]
              have hle' : len * z ≤ nk := hle
              split
              · rename_i hk
                have := avs_some l (k - len * z) (by omega)
                simp only [this, true_iff]; omega
              · rename_i hk
                rw [q4 k]; omega
            by_cases hin : len + n ≤ C
            · have hin' : (len + n) * z ≤ C * z := Nat.mul_le_mul_right _ hin
              have hst := run_storeCells_at P b (len * z) e' m 0 cc w k2 (by simp; omega) (hmr.ones hones)
              simp only [Nat.add_zero] at hst
              refine ⟨_, _, w.setRow b (cc.toList.take (len * z) ++ m ++ cc.toList.drop (len * z + m.length)).toArray, append_fit hT (base := some ⟨b, 0, none⟩) hlen (hfirst w rfl) hin (by simp only [addr_add, Nat.zero_add]; exact hst), ⟨b, C, set_self _ _ _, rfl, hin⟩,
                move_stp hR hf' hid hb (o := .cells (cc.toList.take (len * z) ++ m ++ cc.toList.drop (len * z + m.length)).toArray e' (0, 0)) ?_ _ rfl rfl rfl (by simp [World.setRow]) ?_ ?_⟩
              · refine ⟨_, rfl, q1, by simp; omega, hin', hsome, CRel.more (L := len * z) (q5.mono (Map.set_le hf')) (hmr.mono' (Map.set_le hf')) (fun k hk => (q4 k).1 hk) hnk ?_ ?_⟩
                · intro k hk
                  simp only [List.getElem?_toArray]
                  rw [List.append_assoc, List.getElem?_append_left (by simp; omega), List.getElem?_take_of_lt hk]; simp
                · intro j hj
                  simp only [List.getElem?_toArray]
                  rw [List.append_assoc, List.getElem?_append_right (by simp; omega), List.getElem?_append_left (by simp; omega)]
                  congr 1; simp; omega
              · simp [World.setRow, Array.getElem?_modify, k2]
              · intro k hk
                simp only [World.setRow, Array.getElem?_modify]
                rw [if_neg (Ne.symm hk)]
            · obtain ⟨C2, c, hC, hcs, hrun⟩ := append_grow (ty := ty) hT (base := some ⟨b, 0, none⟩) (sLen := len) (sCap := C) (old := cc.toList.take (len * z)) hlen hfirst (fun w' hw => by
                have hcell : ∀ j u, (cc.toList.take (len * z))[j]? = some u → w.cell? ((⟨b, 0, none⟩ : Addr).add j) = some u := by
                  intro j u hj
                  rw [addr_add, cell_at k2]
                  have hjn : j < len * z := by have := (List.getElem?_eq_some_iff.1 hj).1; simp at this; omega
                  rw [List.getElem?_take_of_lt hjn] at hj
                  simpa using hj
                have := loadCells_same (P := P) hw hcell
                have hlen' : (cc.toList.take (len * z)).length = len * z := by simp; omega
                rw [hlen'] at this
                simp only [Builtin.firstCells]; exact this) (by omega) f1 f2
              have hd : Stp ρ ρ h.get (h.del id).get w w nx nx := Stp.del hR hid hb w rfl rfl rfl rfl (fun _ _ => rfl)
              refine ⟨_, _, _, hrun, ⟨w.heap.size, C2, set_self _ _ _, rfl, hC⟩, hd.trans (Stp.new_ hd.rel hf' (.cells ((cc.toList.take (len * z)).toArray ++ m.toArray ++ c) e') _ C2 ?_ _ rfl rfl rfl (by show w.heap.push _ = _; simp))⟩
              have hmul2 : (len + n) * z ≤ C2 * z := Nat.mul_le_mul_right _ hC
              refine ⟨_, rfl, q1, by simp; omega, hmul2, hsome, CRel.more (L := len * z) (q5.mono (Map.set_le hf')) (hmr.mono' (Map.set_le hf')) (fun k hk => (q4 k).1 hk) hnk ?_ ?_⟩
              · intro k hk
                rw [Array.append_assoc, Array.getElem?_append, if_pos (by simp; omega)]
                simp [hk]
              · intro j hj
                rw [Array.append_assoc, Array.getElem?_append, if_neg (by simp; omega), Array.getElem?_append, if_pos (by simp; omega)]
                have : len * z + j - (cc.toList.take (len * z)).toArray.size = j := by simp; omega
                rw [this]; simp
        · cases e
      · cases e
    · cases e
  · cases e
end Go.Proofs.YteogphbdpjnjoaaGreat
namespace Go.Proofs.YteogphbdpjnjoaaGreat
open Go.RowKit
variable {ρ : Map} {P : Program} {N : Nat} {sl : T AV} {a : Act} {h : T AO} {w : World} {nx : Nat}

noncomputable def ltN (a b : Nat) : Bool := Nat.ble (Nat.succ a) b
theorem ltN_eq (a b : Nat) : ltN a b = decide (a < b) := ble_eq _ _
/-- The rune at a place of a text that is a number, and its width. -/
noncomputable def decN (n d i : Nat) : Nat × Nat :=
  let b0 := byteAt d i
  let b1 := byteAt d (i + 1)
  let b2 := byteAt d (i + 2)
  let b3 := byteAt d (i + 3)
  let c (k b : Nat) : Bool := ltN (i + k) n && Nat.beq (b / 64) 2
  bif Nat.ble 128 b0 then
    bif Nat.beq (b0 / 32) 6 && c 1 b1 then
      let c := (b0 % 32) * 64 + b1 % 64
      bif Nat.ble 128 c then (c, 2) else (65533, 1)
    else bif Nat.beq (b0 / 16) 14 && (c 1 b1 && c 2 b2) then
      let c := (b0 % 16) * 4096 + (b1 % 64) * 64 + b2 % 64
      bif Nat.ble 2048 c && Utf8.valid c then (c, 3) else (65533, 1)
    else bif Nat.beq (b0 / 8) 30 && (c 1 b1 && (c 2 b2 && c 3 b3)) then
      let c := (b0 % 8) * 262144 + (b1 % 64) * 4096 + (b2 % 64) * 64 + b3 % 64
      bif Nat.ble 65536 c && Utf8.valid c then (c, 4) else (65533, 1)
    else (65533, 1)
  else (b0, 1)
theorem SR.get {n d : Nat} {s : ByteArray} (h : SR n d s) (i : Nat) : (s.get! i).toNat = byteAt d i := by
  by_cases hi : i < n
  · have h1 := h.at i hi
    have h2 : s.get! i = UInt8.ofNat (byteAt d i) := by
      have hs := h.size
      have hlt : i < s.size := by omega
      have : s[i]? = some s[i] := by simp [hlt]
      rw [this] at h1
      have h3 : s[i] = UInt8.ofNat (byteAt d i) := by simpa using h1
      rw [← h3]
      have : s.get! i = s.data[i]! := rfl
      rw [this]
      have hd : i < s.data.size := hlt
      simp only [getElem!_pos, hd]; rfl
    rw [h2, ofNat_toNat (byteAt_lt d i)]
  · have hs := h.size
    have h1 : s.get! i = 0 := by
      have : s.get! i = s.data[i]! := rfl
      rw [this]
      have hd : ¬ i < s.data.size := by show ¬ i < s.size; omega
      rw [getElem!_neg s.data i hd]; rfl
    rw [h1, byteAt_eq]
    have : d < 256 ^ i := Nat.lt_of_lt_of_le h.lt (Nat.pow_le_pow_right (by omega) (by omega))
    rw [Nat.div_eq_of_lt this]; rfl
theorem cond_ite {α : Type} (b : Bool) (x y : α) : (bif b then x else y) = if b = true then x else y := by cases b <;> rfl
theorem decN_eq {n d : Nat} {s : ByteArray} (h : SR n d s) (i : Nat) : Utf8.decode s i = decN n d i := by
  have hs := h.size
  unfold Utf8.decode decN
  simp only [h.get, hs, cond_ite, ltN_eq, ble_eq, beq_eq, Bool.and_eq_true, decide_eq_true_eq, Nat.add_zero, beq_iff_eq, ge_iff_le, Utf8.runeError]
  by_cases h0 : byteAt d i < 128
  · have h1 : ¬ 128 ≤ byteAt d i := by omega
    rw [if_pos h0, if_neg h1]
  · have h1 : 128 ≤ byteAt d i := by omega
    rw [if_neg h0, if_pos h1]
    split
    · rfl
    · split
      · rename_i h2; rw [if_pos (and_assoc.mp h2)]
      · rename_i h2; rw [if_neg (fun q => h2 (and_assoc.mpr q))]
        split
        · rename_i h3; rw [if_pos (and_assoc.mp (and_assoc.mp h3))]
        · rename_i h3; rw [if_neg (fun q => h3 (and_assoc.mpr (and_assoc.mpr q)))]
/-- A text that is gone over. -/
noncomputable def evRange (P : Program) (h : T AO) (nx : Nat) (t : TypeId) (x : AV) : R :=
  match P.underlying t, x with
  | some .string, .s n d => (h.put nx (.iter n d 0)).seq fun h => .ok (.p nx 0) h (Nat.succ nx)
  | _, _ => .bad
theorem evRange_run (hR : Rel ρ h.get w) {t : TypeId} {x : AV} {x' : Value} (hx : VRel ρ x x') {r : AV} {h' : T AO} {nx' : Nat} (e : evRange P h nx t x = .ok r h' nx') (hf : Fr ρ nx nx') :
    ∃ ρ' u w', (Instr.range t x').run P w = .ok u w' ∧ VRel ρ' r u ∧ Stp ρ ρ' h.get h'.get w w' nx nx' := by
  unfold evRange at e
  split at e
  · rename_i n d hu
    rw [T.seq_eq] at e; cases e
    obtain ⟨s, rfl, hs⟩ := hx
    have hf' : ρ nx = none := hf nx (Nat.le_refl _) (Nat.lt_succ_self _)
    exact ⟨ρ.set nx (w.heap.size, 0), .pointer (some ⟨w.heap.size, 0, none⟩), w.alloc (.stringIter s 0), by simp [Instr.range, run_underlying hu, World.alloc_eq], ⟨_, _, set_self _ _ _, rfl⟩,
      Stp.new_ hR hf' (.stringIter s 0) (.iter n d 0) 0 ⟨s, rfl, hs⟩ _ rfl rfl rfl rfl⟩
  · cases e
noncomputable def evNext (h : T AO) (nx : Nat) (x : AV) (isS : Bool) : R :=
  match x, isS with
  | .p id 0, true => match h.get id with
    | some (.iter n d i) => bif Nat.ble (Nat.succ i) n then
        match decN n d i with
        | (c, k) => (h.put id (.iter n d (Nat.add i k))).seq fun h => .ok (.tup (.cons (.b true) (.cons (.i .i64 (.ofNat i)) (.cons (.i .i32 (.ofNat c)) .nil)))) h nx
      else .ok (.tup (.cons (.b false) .nil)) h nx
    | _ => .bad
  | _, _ => .bad
theorem evNext_run (hR : Rel ρ h.get w) {x : AV} {x' : Value} (hx : VRel ρ x x') {b : Bool} {t : TypeId} {r : AV} {h' : T AO} {nx' : Nat} (e : evNext h nx x b = .ok r h' nx') :
    ∃ u w', (Instr.next x' b t).run P w = .ok u w' ∧ VRel ρ r u ∧ Stp ρ ρ h.get h'.get w w' nx nx' := by
  unfold evNext at e
  split at e
  · rename_i id
    obtain ⟨bb, C, hb, rfl⟩ := hx
    split at e
    · rename_i n d i hid
      obtain ⟨b', C', ob, k1, k2, k3⟩ := hR.has id _ hid
      rw [hb] at k1; cases k1
      obtain ⟨s, rfl, hs⟩ := k3
      have hsz := hs.size
      by_cases hi : i < n
      · have hq : Nat.ble (Nat.succ i) n = true := by rw [Nat.ble_eq]; exact hi
        rw [hq, cond_true] at e
        have hd := decN_eq hs i
        split at e
        rename_i c k hck
        rw [T.seq_eq] at e; cases e
        have hlt : i < s.size := by omega
        refine ⟨.tuple #[.bool true, goInt i, .int .i32 c], { w with heap := w.heap.setIfInBounds bb (.stringIter s (i + k)) }, ?_, ⟨_, rfl, _, _, rfl, rfl, _, _, rfl, rfl, _, _, rfl, rfl, rfl⟩,
          Stp.upd hR hid hb (a1 := .iter n d (i + k)) (o := .stringIter s (i + k)) ⟨s, rfl, hs⟩ _ rfl rfl rfl (by simp) ?_ ?_⟩
        · simp only [Instr.next, getObj, setObj, Sem.run_bind, Sem.run, k2, Result.andThen_ok, hlt, if_true, hd, hck, Sem.run_pure]
        · have := (Array.getElem?_eq_some_iff.1 k2).1
          simp [this]
        · intro k' hk
          simp only [Array.getElem?_setIfInBounds]
          rw [if_neg (Ne.symm hk)]
      · have hq : Nat.ble (Nat.succ i) n = false := by rw [ble_eq]; exact decide_eq_false hi
        rw [hq, cond_false] at e; cases e
        have hlt : ¬ i < s.size := by omega
        refine ⟨.tuple #[.bool false], w, ?_, ⟨_, rfl, _, _, rfl, rfl, rfl⟩, Stp.refl hR⟩
        simp only [Instr.next, getObj, Sem.run_bind, Sem.run, k2, Result.andThen_ok, hlt, if_false, Sem.run_pure]
    · cases e
  · cases e
end Go.Proofs.YteogphbdpjnjoaaGreat
namespace Go.Proofs.YteogphbdpjnjoaaGreat
open Go.RowKit
variable {ρ : Map} {P : Program} {N : Nat} {sl : T AV} {a : Act} {h : T AO} {w : World} {nx : Nat}

/-- A row that is made. -/
def makeTy (P : Program) (t : TypeId) : Option (TypeId × Nat × Nat × AV) := match rowTy P t with | some (e, n, z) => (match P.info? e with | some i => some (e, n, i.bytes, z) | none => none) | none => none
noncomputable def evMake (P : Program) (h : T AO) (nx : Nat) (t : TypeId) (len cap : AV) : R :=
  match makeTy P t, len, cap with
  | some (e, n, b, z), .i _ x, .i _ y => match natOf x, natOf y with
    | some l, some c => bif Nat.ble l c && (Nat.ble (Nat.mul b c) 281474976710656 && Nat.ble c 16777216) then
        (h.put nx (.cells (ofA (repl c z.cells) 0 .nil) (repl c z.cells).len e)).seq fun h => .ok (.sl nx 0 l c) h (Nat.succ nx)
      else .bad
    | _, _ => .bad
  | _, _, _ => .bad
theorem evMake_run (hR : Rel ρ h.get w) {t : TypeId} {x y : AV} {x' y' : Value} (hx : VRel ρ x x') (hy : VRel ρ y y') {r : AV} {h' : T AO} {nx' : Nat} (e : evMake P h nx t x y = .ok r h' nx') (hf : Fr ρ nx nx') :
    ∃ ρ' u w', (Instr.makeSlice t x' y').run P w = .ok u w' ∧ VRel ρ' r u ∧ Stp ρ ρ' h.get h'.get w w' nx nx' := by
  unfold evMake at e
  split at e
  · rename_i el n b z k1 x1 k2 y1 hT
    split at e
    · rename_i l c hl hc
      obtain ⟨h1, e⟩ := bif_ok e
      rw [Bool.and_eq_true, Bool.and_eq_true, Nat.ble_eq, Nat.ble_eq, Nat.ble_eq] at h1
      obtain ⟨hlc, hb, hc16⟩ := h1
      rw [T.seq_eq] at e; cases e
      have e1 := natOf_eq hl; have e2 := natOf_eq hc
      subst e1; subst e2
      cases hx; cases hy
      have hf' : ρ nx = none := hf nx (Nat.le_refl _) (Nat.lt_succ_self _)
      unfold makeTy at hT
      split at hT
      · rename_i e' n' z' hrow
        split at hT <;> cases hT
        rename_i i hi
        obtain ⟨hu, hn, hz, hzl, hn0⟩ := rowTy_is hrow
        obtain ⟨zv, hzr, hzv⟩ := zero_run (ρ := ρ) hz
        have hzc := hzv.cells
        have hzs : zv.cells.size = n := by have := hzc.len; rw [hzl] at this; simpa using this.symm
        have hsz : i.size = n := by unfold sizeTy at hn; simpa [hi] using hn
        have hrr := repl_rel hzc c
        have hw1 : IntKind.i64.wrap (l : Int) = l := IntWalk.i64_in _ (by omega)
        have hw2 : IntKind.i64.wrap (c : Int) = c := IntWalk.i64_in _ (by omega)
        have hbb : i.bytes * c ≤ 281474976710656 := hb
        have hbl : i.bytes * l ≤ 281474976710656 := Nat.le_trans (Nat.mul_le_mul_left _ hlc) hbb
        have hb1 : ¬ ((281474976710656 : Int) < (i.bytes : Int) * (c : Int)) := by
          have : ((i.bytes * c : Nat) : Int) ≤ ((281474976710656 : Nat) : Int) := Int.ofNat_le.mpr hbb
          rw [Int.natCast_mul] at this; omega
        have hnl : ¬ ((c : Int) < (l : Int)) := by omega
        by_cases hc0 : c * n = 0
        · have hc00 : c = 0 := by rcases Nat.mul_eq_zero.1 hc0 with h | h; exact h; omega
          subst hc00
          have hl0 : l = 0 := by omega
          subst hl0
          refine ⟨ρ.set nx (w.heap.size, 0), .slice (some ⟨w.heap.size, 0, none⟩) 0 0, w.alloc (.cells #[] el), ?_, ⟨w.heap.size, 0, set_self _ _ _, rfl⟩, new_stp hR hf' el (m := []) (by simp [repl, VsRel]) #[] (fun k hk => by simp) rfl _ rfl rfl rfl rfl⟩
          simp [Instr.makeSlice, run_underlying hu, asInt, asIntOf, typeInfo, hi, sizeOf, newRow, World.alloc_eq, IntWalk.i64_in 0 (by omega)]
          simp [Array.range_zero']
        · have hcells : ((Array.range (c * n)).map (fun i => zv.cells[i % zv.cells.size]!)).toList = (List.replicate c zv.cells.toList).flatten := by rw [← hzs]; exact rangeZ zv.cells c (by omega)
          refine ⟨ρ.set nx (w.heap.size, 0), .slice (some ⟨w.heap.size, 0, none⟩) l c, w.alloc (.cells ((Array.range (c * n)).map (fun i => zv.cells[i % zv.cells.size]!)) el), ?_, ⟨w.heap.size, 0, set_self _ _ _, rfl⟩,
            new_stp hR hf' el hrr _ (fun k hk => by rw [← hcells]; exact Array.getElem?_toList.symm) (by rw [← hcells, Array.length_toList]) _ rfl rfl rfl rfl⟩
          simp only [Instr.makeSlice, Sem.run_bind, run_underlying hu, Result.andThen_ok, asInt, asIntOf, Sem.run_pure, typeInfo, run_program, hi, hw1, hw2]
          have hcn : ¬ ((c : Int) < 0) := by omega
          have hln : ¬ ((l : Int) < 0) := by omega
          simp [hcn, hln, hb1, hnl, sizeOf, typeInfo, hi, hsz, hc0, hzr, newRow, World.alloc_eq]
      · cases hT
    · cases e
  · cases e
/-- A row copied onto another one. -/
noncomputable def evCopy (P : Program) (h : T AO) (nx : Nat) (t : TypeId) (d s : AV) : R :=
  match rowTy P t with
  | some (e, z, _) => match evNews h z s with
    | some (n, l) => bif (match s with | .s _ _ => Nat.beq z 1 | _ => true) && l.ones then match d with
      | .sl id off len _ => match h.get id with
        | some o => match o.tr with
          | some tr => bif Nat.ble n len then (match writeN l off tr with
            | some t' => (h.put id (o.setTr t')).seq fun h => .ok (.i .i64 (.ofNat n)) h nx
            | none => .bad) else .bad
          | none => .bad
        | none => .bad
      | .gs _ len => bif Nat.beq n 0 then .ok (.i .i64 (.ofNat 0)) h nx else .bad
      | .ns => bif Nat.beq n 0 then .ok (.i .i64 (.ofNat 0)) h nx else .bad
      | _ => .bad
      else .bad
    | none => .bad
  | none => .bad
theorem evCopy_run (hR : Rel ρ h.get w) {t u ty : TypeId} {d s : AV} {d' s' : Value} (hd : VRel ρ d d') (hs : VRel ρ s s') {r : AV} {h' : T AO} {nx' : Nat} (e : evCopy P h nx t d s = .ok r h' nx') :
    ∃ v w', (Builtin.copy_ #[t, u] ty #[d', s']).run P w = .ok v w' ∧ VRel ρ r v ∧ Stp ρ ρ h.get h'.get w w' nx nx' := by
  unfold evCopy at e
  split at e
  · rename_i el z zv hrow
    obtain ⟨hu, hn, hz, hzl, hn0⟩ := rowTy_is hrow
    split at e
    · rename_i n l hl
      obtain ⟨hxz, e2⟩ := bif_ok e
      clear e; have e := e2; clear e2
      rw [Bool.and_eq_true] at hxz
      obtain ⟨m, hm, hmr, hlen, hfirst⟩ := evNews_run (P := P) hR hs hl (by rintro ⟨k, d, rfl⟩; simpa [Nat.beq_eq] using hxz.1)
      have hll := hmr.len
      split at e
      · rename_i id off len cap
        obtain ⟨b, C, hb, rfl⟩ := hd
        split at e
        · rename_i o hid
          split at e
          · rename_i tr htr
            obtain ⟨hle, e⟩ := bif_ok e
            rw [Nat.ble_eq] at hle
            split at e
            · rename_i t' ht'
              rw [T.seq_eq] at e; cases e
              obtain ⟨w', hst, hstp⟩ := write_stp (P := P) (nx := nx) hR hid htr hb hmr hxz.2 ht'
              have hmin : Nat.min n len = n := Nat.min_eq_left hle
              refine ⟨.int .i64 n, w', ?_, rfl, hstp⟩
              simp only [Builtin.copy_, List.getElem?_toArray, List.getElem?_cons_zero, List.getElem?_cons_succ, Sem.run_bind, run_underlying hu, Result.andThen_ok, hlen, sizeOf_run hn, hmin, hfirst w rfl, hst, Sem.run_pure, goInt]
            · cases e
          · cases e
        · cases e
      · rename_i id len
        obtain ⟨b, C, hb, rfl, _⟩ := hd
        obtain ⟨hn0', e⟩ := bif_ok e
        rw [Nat.beq_eq] at hn0'
        subst hn0'
        cases e
        have hm0 : m = [] := List.eq_nil_of_length_eq_zero (by omega)
        subst hm0
        have hmin : Nat.min 0 len = 0 := Nat.zero_min _
        refine ⟨.int .i64 (0 : Nat), w, ?_, rfl, Stp.refl hR⟩
        simp only [Builtin.copy_, List.getElem?_toArray, List.getElem?_cons_zero, List.getElem?_cons_succ, Sem.run_bind, run_underlying hu, Result.andThen_ok, hlen, sizeOf_run hn, hmin, hfirst w rfl, storeCells, Sem.run_pure, goInt]
      · cases hd
        obtain ⟨hn0', e⟩ := bif_ok e
        rw [Nat.beq_eq] at hn0'
        subst hn0'
        cases e
        have hm0 : m = [] := List.eq_nil_of_length_eq_zero (by omega)
        subst hm0
        have hmin : Nat.min 0 0 = 0 := rfl
        refine ⟨.int .i64 (0 : Nat), w, ?_, rfl, Stp.refl hR⟩
        simp only [Builtin.copy_, List.getElem?_toArray, List.getElem?_cons_zero, List.getElem?_cons_succ, Sem.run_bind, run_underlying hu, Result.andThen_ok, hlen, sizeOf_run hn, hmin, hfirst w rfl, Sem.run_pure, goInt]
      · cases e
    · cases e
  · cases e
/-- Bytes as a text's number. -/
noncomputable def bytesNum : AVs → Option Nat
  | .nil => some 0
  | .cons (.i .u8 (.ofNat k)) l => bif ltN k 256 then (match bytesNum l with | some d => some (Nat.add k (Nat.mul 256 d)) | none => none) else none
  | _ => none
theorem bytesNum_rel : ∀ {l : AVs} {d : Nat} {m : List Value}, bytesNum l = some d → VsRel ρ l m → ∃ bs : List UInt8, m = bs.map (fun b => Value.int .u8 b.toNat) ∧ numOf bs = d
  | .nil, d, m, e, h => by simp only [bytesNum] at e; cases e; simp only [VsRel] at h; subst h; exact ⟨[], rfl, rfl⟩
  | .cons a l, d, m, e, ⟨v, r, hm, hv, hr⟩ => by
    subst hm
    cases a with
    | i kd n =>
      cases kd with
      | u8 =>
        cases n with
        | ofNat k =>
          simp only [bytesNum] at e
          obtain ⟨h1, e⟩ := bif_some' e
          rw [ltN_eq, decide_eq_true_iff] at h1
          split at e <;> cases e
          rename_i d' hd
          obtain ⟨bs, rfl, h3⟩ := bytesNum_rel hd hr
          cases hv
          refine ⟨UInt8.ofNat k :: bs, ?_, ?_⟩
          · simp only [List.map_cons, ofNat_toNat h1]; rfl
          · simp only [numOf, ofNat_toNat h1, h3]; rfl
        | negSucc k => simp [bytesNum] at e
      | _ => simp [bytesNum] at e
    | _ => simp [bytesNum] at e
/-- A row of bytes seen as a text; it is not asked for again. -/
def ptrTy (P : Program) (t : TypeId) : Option TypeId := match P.underlying t with | some (.pointer e) => bif Nat.beq (P.cellsOf e) 1 then some e else none | _ => none
noncomputable def evUStr (P : Program) (h : T AO) (nx : Nat) (t : TypeId) (x n : AV) : R :=
  match x, n with
  | .np, .i .i64 k => bif eqI k 0 then .ok (.s 0 0) h nx else .bad
  | .p id off, .i .i64 k => bif eqI k 0 then .ok (.s 0 0) h nx else match natOf k, ptrTy P t with
    | some n, some e => bif Nat.beq off 0 && Nat.ble n 9223372036854775807 then match h.get id with
      | some o => match o.tr with
        | some tr => bif Nat.beq o.ty e then match readN tr n 0 with
          | some l => match bytesNum l with
            | some d => (h.del id).seq fun h => .ok (.s n d) h nx
            | none => .bad
          | none => .bad
          else .bad
        | none => .bad
      | none => .bad
      else .bad
    | _, _ => .bad
  | _, _ => .bad
theorem evUStr_run (hR : Rel ρ h.get w) {t it ty : TypeId} {x n : AV} {x' n' : Value} (hx : VRel ρ x x') (hn : VRel ρ n n') {r : AV} {h' : T AO} {nx' : Nat} (e : evUStr P h nx t x n = .ok r h' nx') :
    ∃ v w', (Builtin.unsafeString_ #[t, it] ty #[x', n']).run P w = .ok v w' ∧ VRel ρ r v ∧ Stp ρ ρ h.get h'.get w w' nx nx' := by
  unfold evUStr at e
  split at e
  · rename_i k
    cases hx; cases hn
    obtain ⟨h1, e⟩ := bif_ok e
    rw [eqI_eq, decide_eq_true_iff] at h1
    subst h1; cases e
    exact ⟨_, w, Lib.run_unsafeString_none w _ _ _ _, ⟨.empty, rfl, rfl, by simp⟩, Stp.refl hR⟩
  · rename_i id off k
    obtain ⟨b, C, hb, rfl⟩ := hx
    cases hn
    by_cases hk : k = 0
    · subst hk
      have : eqI 0 0 = true := rfl
      rw [this, cond_true] at e; cases e
      exact ⟨_, w, Lib.run_unsafeString_none w _ _ _ _, ⟨.empty, rfl, rfl, by simp⟩, Stp.refl hR⟩
    · have : eqI k 0 = false := by rw [eqI_eq]; exact decide_eq_false hk
      rw [this, cond_false] at e
      split at e
      · rename_i m el hm hel
        have := natOf_eq hm; subst this
        obtain ⟨h1, e2⟩ := bif_ok e
        clear e; have e := e2; clear e2
        rw [Bool.and_eq_true, Nat.beq_eq, Nat.ble_eq] at h1
        obtain ⟨hoff, h63⟩ := h1
        subst hoff
        split at e
        · rename_i o hid
          split at e
          · rename_i tr htr
            obtain ⟨hty, e2⟩ := bif_ok e
            clear e; have e := e2; clear e2
            rw [Nat.beq_eq] at hty
            split at e
            · rename_i l hl
              split at e
              · rename_i d hd
                rw [T.seq_eq] at e; cases e
                obtain ⟨cc, hblk, hc⟩ := rel_block hR hid htr hb
                obtain ⟨ml, hml, hmr, hcell, _⟩ := readN_run (P := P) hblk hc hl
                have hle := readN_le hc _ _ hl (by omega)
                obtain ⟨bs, rfl, hnum⟩ := bytesNum_rel hd hmr
                have hbl : bs.length = m := by simpa using hml
                have hptr : P.underlying t = some (.pointer el) ∧ P.cellsOf el = 1 := by
                  unfold ptrTy at hel
                  split at hel
                  · obtain ⟨q1, q2⟩ := bif_some hel
                    cases q2
                    rw [Nat.beq_eq] at q1
                    rename_i hq
                    exact ⟨hq, q1⟩
                  · cases hel
                have hsh : w.shape? b = some (el, cc.size) := by rw [← hty]; simp [World.shape?, hblk]
                have hrun := Lib.run_unsafeString_row (P := P) w t it ty el hptr.1 hptr.2 b cc.size hsh bs (by intro q; subst q; simp at hbl; omega) (by omega) (by omega) (fun j x hj => hcell j _ (by simp [hj]))
                rw [hbl] at hrun
                refine ⟨_, _, hrun, ⟨_, rfl, ?_⟩, Stp.del hR hid hb _ ?_ ?_ ?_ ?_ ?_⟩
                · refine ⟨?_, ?_⟩
                  · show bs = _
                    rw [← hnum, ← hbl, bytesOf_numOf]
                  · rw [← hnum, ← hbl]; exact numOf_lt bs
                all_goals unfold World.freeze
                · split <;> rfl
                · split <;> rfl
                · split <;> rfl
                · split <;> simp
                · intro k hk
                  split
                  · rfl
                  · simp only [Array.getElem?_modify]
                    rw [if_neg (Ne.symm hk)]
              · cases e
            · cases e
          · cases e
        · cases e
      · cases e
  · cases e
noncomputable def evSData (x : AV) : Option AV :=
  match x with
  | .ns => some .np
  | .sl id off _ cap => bif Nat.ble 1 cap then some (.p id off) else none
  | .gs id len => bif Nat.ble 1 len then some (.p id 0) else none
  | _ => none
theorem sdata_run {ts : Array TypeId} {ty : TypeId} {ad : Addr} {n c : Nat} (hc : c ≠ 0) (w : World) : (Builtin.unsafeSliceData_ ts ty #[.slice (some ad) n c]).run P w = .ok (.pointer (some ad)) w := by
  have hdef : Builtin.unsafeSliceData_ ts ty #[.slice (some ad) n c] =
      (do
        if c ≠ 0 then pure (.pointer (some ad))
        else if (← viewAt ad.block).isSome then pure (.pointer (some ad))
        else pure (.pointer (some ⟨← newObj (.view ad (← elemOf ty)), 0, none⟩))) := rfl
  rw [hdef, if_pos hc]; rfl
theorem evSData_run {x : AV} {x' : Value} (hx : VRel ρ x x') {ts : Array TypeId} {ty : TypeId} {v : AV} (e : evSData x = some v) : ∃ u, (∀ w, (Builtin.unsafeSliceData_ ts ty #[x']).run P w = .ok u w) ∧ VRel ρ v u := by
  unfold evSData at e
  split at e
  · cases hx; cases e; exact ⟨_, fun w => rfl, rfl⟩
  · obtain ⟨b, C, hb, rfl⟩ := hx
    obtain ⟨h1, rfl⟩ := bif_some e
    rw [Nat.ble_eq] at h1
    exact ⟨_, fun w => sdata_run (by omega) w, b, C, hb, rfl⟩
  · obtain ⟨b, C, hb, rfl, hle⟩ := hx
    obtain ⟨h1, rfl⟩ := bif_some e
    rw [Nat.ble_eq] at h1
    exact ⟨_, fun w => sdata_run (by omega) w, b, C, hb, rfl⟩
  · cases e
/-- A text as a row of bytes that is only read. -/
def sbTy (P : Program) (s d : TypeId) : Option TypeId :=
  match P.underlying s, P.underlying d with
  | some .string, some (.slice e) => match P.underlying e with | some (.int .u8) => some e | _ => none
  | _, _ => none
noncomputable def evSBytes (P : Program) (h : T AO) (nx : Nat) (s d : TypeId) (x : AV) : R :=
  match sbTy P s d, x with
  | some _, .s n k => (h.put nx (.ro (ofA (bytesAV n k) 0 .nil))).seq fun h => .ok (.su nx 0 n) h (Nat.succ nx)
  | _, _ => .bad
theorem evSBytes_run (hR : Rel ρ h.get w) {s d : TypeId} {x : AV} {x' : Value} (hx : VRel ρ x x') {r : AV} {h' : T AO} {nx' : Nat} (e : evSBytes P h nx s d x = .ok r h' nx') (hf : Fr ρ nx nx') :
    ∃ ρ' u w', (convert s d x').run P w = .ok u w' ∧ VRel ρ' r u ∧ Stp ρ ρ' h.get h'.get w w' nx nx' := by
  unfold evSBytes at e
  split at e
  · rename_i el n k hT
    rw [T.seq_eq] at e; cases e
    obtain ⟨st, rfl, hs⟩ := hx
    have hf' : ρ nx = none := hf nx (Nat.le_refl _) (Nat.lt_succ_self _)
    have hty : P.underlying s = some .string ∧ P.underlying d = some (.slice el) ∧ P.underlying el = some (.int .u8) := by
      unfold sbTy at hT
      split at hT
      · rename_i e' h1 h2
        split at hT <;> cases hT
        rename_i h3
        exact ⟨h1, h2, h3⟩
      · cases hT
    obtain ⟨t1, t2, t3⟩ := hty
    have hge : st.size ≤ grownCap w st.size 0 el := grownCap_ge _ _ _ _
    have hsz := hs.size
    subst hsz
    have hrel := bytesAV_rel (ρ := ρ.set nx (w.heap.size, 0)) st.size k
    rw [← hs.by_] at hrel
    have hh : (Lib.bytesWorld w el st).heap = w.heap.push (.cells (Lib.bytesCells w el st) el ((Lib.bytesCells w el st).size, (Lib.bytesCells w el st).size + 1)) := by
      apply Array.ext_getElem?
      intro j
      rcases Nat.lt_trichotomy j w.heap.size with h1 | h1 | h1
      · rw [Lib.bytesWorld_at_old w el st j h1, Array.getElem?_push, if_neg (by omega)]
      · subst h1; rw [Lib.bytesWorld_at_new]; simp
      · have h2 := Lib.bytesWorld_size w el st
        rw [Array.getElem?_eq_none (by omega), Array.getElem?_eq_none (by simp; omega)]
    refine ⟨ρ.set nx (w.heap.size, 0), .slice (some ⟨w.heap.size, 0, none⟩) st.size (grownCap w st.size 0 el), Lib.bytesWorld w el st, Lib.run_convert_string_bytes w s d el st t1 t2 t3, ⟨w.heap.size, 0, 0, _, set_self _ _ _, rfl, hge, fun _ => rfl⟩,
      Stp.new_ hR hf' _ (.ro (ofA (bytesAV st.size k) 0 .nil)) 0 ⟨_, _, _, rfl, CRel.of_avs hrel fun j hj => ?_⟩ _ rfl rfl rfl hh⟩
    have hjn : j < st.data.size := by simpa using hj
    simp [Lib.bytesCells, Array.getElem?_append, hjn]
    try (intro hq; have : st.size = st.data.size := rfl; omega)
  · cases e
/-- A pointer to what is of no type, and back. -/
def unsTy (P : Program) (s d : TypeId) : Nat × TypeId :=
  match P.underlying s, P.underlying d with
  | some (.pointer t), some .unsafePointer => match sizeTy P t with | some n => (bif Nat.beq n 0 then 0 else 1, t) | none => (0, 0)
  | some .unsafePointer, some (.pointer u) => match sizeTy P u with | some _ => (2, u) | none => (0, 0)
  | _, _ => (0, 0)
noncomputable def evUns (P : Program) (h : T AO) (s d : TypeId) (x : AV) : Option AV :=
  match x with
  | .p id off => match h.get id with
    | some (.cells tr n e) => match unsTy P s d with
      | (1, _) => bif ltN off n then some (.p id off) else none
      | (2, u) => bif liesAt P P.depth e (n / P.cellsOf e) off u 1 then some (.p id off) else none
      | _ => none
    | _ => none
  | _ => none
theorem evUns_run (hR : Rel ρ h.get w) {s d : TypeId} {x : AV} {x' : Value} (hx : VRel ρ x x') {v : AV} (e : evUns P h s d x = some v) : ∃ u, (convert s d x').run P w = .ok u w ∧ VRel ρ v u := by
  unfold evUns at e
  split at e
  · rename_i id off
    obtain ⟨b, C, hb, rfl⟩ := hx
    split at e
    · rename_i tr n el hid
      obtain ⟨b', C', ob, k1, k2, k3⟩ := hR.has id _ hid
      rw [hb] at k1; cases k1
      obtain ⟨c, rfl, hsz, _⟩ := k3
      have hsh : w.shape? b = some (el, n) := by simp [World.shape?, k2, hsz]
      have hty : (∀ t, unsTy P s d = (1, t) → P.underlying s = some (.pointer t) ∧ P.underlying d = some .unsafePointer ∧ ∃ i, P.info? t = some i ∧ i.size ≠ 0) ∧ (∀ u, unsTy P s d = (2, u) → P.underlying s = some .unsafePointer ∧ P.underlying d = some (.pointer u) ∧ ∃ i, P.info? u = some i) := by
        unfold unsTy
        split
        · rename_i t h1 h2
          cases g : sizeTy P t with
          | none => simp [g]
          | some k =>
            have hi : ∃ i, P.info? t = some i ∧ i.size = k := by
              unfold sizeTy at g
              cases q : P.info? t with
              | none => simp [q] at g
              | some i => simp [q] at g; exact ⟨i, rfl, g⟩
            obtain ⟨i, hi1, hi2⟩ := hi
            by_cases hk : k = 0
            · simp [hk, beq_t]
            · simp only [beq_f hk, cond_false]
              refine ⟨fun t' ht => ?_, fun u hu => by cases hu⟩
              cases ht
              exact ⟨h1, h2, i, hi1, by omega⟩
        · rename_i u h1 h2
          cases g : sizeTy P u with
          | none => simp [g]
          | some k =>
            have hi : ∃ i, P.info? u = some i := by
              unfold sizeTy at g
              cases q : P.info? u with
              | none => simp [q] at g
              | some i => exact ⟨i, rfl⟩
            refine ⟨fun t' ht => (by cases ht), fun u' hu => ?_⟩
            cases hu
            exact ⟨h1, h2, hi⟩
        · simp
      split at e
      · rename_i t ht
        obtain ⟨h1, rfl⟩ := bif_some e
        rw [ltN_eq, decide_eq_true_iff] at h1
        obtain ⟨q1, q2, i, q3, q4⟩ := hty.1 _ ht
        exact ⟨_, Lib.run_to_unsafe w ⟨b, off, none⟩ q1 q2 q3 q4 hsh h1, b, C, hb, rfl⟩
      · rename_i u hu
        obtain ⟨h1, rfl⟩ := bif_some e
        obtain ⟨q1, q2, i, q3⟩ := hty.2 _ hu
        exact ⟨_, Lib.run_from_unsafe w ⟨b, off, none⟩ q1 q2 q3 hsh h1, b, C, hb, rfl⟩
      · cases e
    · cases e
  · cases e
/-- Two pointers into one block. -/
noncomputable def evPtr (P : Program) (op : BinOp) (t : TypeId) (x y : AV) : Option AV :=
  match x, y with
  | .p i o, .p j q => match P.underlying t with
    | some (.pointer e) => match sizeTy P e with
      | some n => bif Nat.beq i j && !(Nat.beq n 0) then (match op with | .eql => some (.b (Nat.beq o q)) | .neq => some (.b (!(Nat.beq o q))) | _ => none) else none
      | none => none
    | _ => none
  | _, _ => none
theorem evPtr_run {op : BinOp} {t : TypeId} {ox oy : Operand} {x y : AV} {x' y' : Value} (hx : VRel ρ x x') (hy : VRel ρ y y') {v : AV} (h : evPtr P op t x y = some v) :
    ∃ u, (∀ w, (do eqGuard op t ox oy x' y'; binOp op t x' y' : Sem Value).run P w = .ok u w) ∧ VRel ρ v u := by
  unfold evPtr at h
  split at h
  · rename_i i o j q
    obtain ⟨b, C, hb, rfl⟩ := hx
    obtain ⟨b2, C2, hb2, rfl⟩ := hy
    split at h
    · rename_i e hu
      split at h
      · rename_i n hn
        obtain ⟨h1, h2⟩ := bif_some' h
        clear h; have h := h2; clear h2
        rw [Bool.and_eq_true, Nat.beq_eq, Bool.not_eq_true', beq_eq, decide_eq_false_iff_not] at h1
        obtain ⟨rfl, hn0⟩ := h1
        rw [hb] at hb2; cases hb2
        have key : ∀ w, (Op.equal t (.pointer (some ⟨b, o, none⟩)) (.pointer (some ⟨b, q, none⟩))).run P w = .ok (decide (o = q)) w := by
          intro w
          have he : Op.equal t (.pointer (some ⟨b, o, none⟩)) (.pointer (some ⟨b, q, none⟩)) = Op.equalIn (9999 + 1) t (.pointer (some ⟨b, o, none⟩)) (.pointer (some ⟨b, q, none⟩)) := rfl
          rw [he]; clear he
          generalize 9999 = dp
          simp [Op.equalIn, run_underlying hu, sizeOf_run hn, hn0, sameAddr]
          rw [Bool.eq_iff_iff, beq_iff_eq, decide_eq_true_iff]; simp
        have hg : ∀ w, (eqGuard op t ox oy (.pointer (some ⟨b, o, none⟩)) (.pointer (some ⟨b, q, none⟩))).run P w = .ok () w := fun w => by cases op <;> rfl
        split at h <;> cases h
        · exact ⟨.bool (decide (o = q)), fun w => by simp only [Sem.run_bind, hg, Result.andThen_ok]; show ((do pure (.bool (← Op.equal t (.pointer (some ⟨b, o, none⟩)) (.pointer (some ⟨b, q, none⟩)))) : Sem Value)).run P w = _; simp [key], by rw [beq_eq]; rfl⟩
        · exact ⟨.bool (!decide (o = q)), fun w => by simp only [Sem.run_bind, hg, Result.andThen_ok]; show ((do pure (.bool (!(← Op.equal t (.pointer (some ⟨b, o, none⟩)) (.pointer (some ⟨b, q, none⟩))))) : Sem Value)).run P w = _; simp [key], by rw [beq_eq]; rfl⟩
      · cases h
    · cases h
  · cases h
/-- Two of one plain type. -/
noncomputable def evScal (P : Program) (t : TypeId) (x y : AV) : Option Bool :=
  match P.underlying t, x, y with
  | some (.int _), .i j a, .i k b => bif eqK j k then some (eqI a b) else none
  | some .bool, .b a, .b b => some (a == b)
  | some .string, .s n d, .s m e => some (Nat.beq n m && Nat.beq d e)
  | some (.int _), .y (.i j a), .y (.i k b) => bif eqK j k && Nat.beq a b then some true else none
  | some .string, .y (.t a _), .y (.t b _) => bif Nat.beq a b then some true else none
  | _, _, _ => none
theorem evScal_run {t : TypeId} {x y : AV} {x' y' : Value} (hx : VRel ρ x x') (hy : VRel ρ y y') {r : Bool} (h : evScal P t x y = some r) (d : Nat) (w : World) : (Op.equalIn (d + 1) t x' y').run P w = .ok r w := by
  unfold evScal at h
  split at h
  · rename_i kk j a k b hu
    obtain ⟨h1, h2⟩ := bif_some h
    have := eqK_eq h1; subst this
    cases hx; cases hy
    subst h2
    rw [run_equalIn_int w d t _ kk a b hu, eqI_eq]
    congr 1
  · rename_i a b hu
    cases h; cases hx; cases hy
    exact run_equalIn_bool' w d t a b hu
  · rename_i n1 d1 m1 e1 hu
    cases h
    obtain ⟨s1, rfl, h1⟩ := hx
    obtain ⟨s2, rfl, h2⟩ := hy
    rw [run_equalIn_string w d t s1 s2 hu, h1.beq h2]
  · rename_i kk j a k b hu
    obtain ⟨h1, rfl⟩ := bif_some h
    rw [Bool.and_eq_true, Nat.beq_eq] at h1
    obtain ⟨h1, rfl⟩ := h1
    have := eqK_eq h1; subst this
    obtain ⟨b1, C1, e1, rfl⟩ := hx
    obtain ⟨b2, C2, e2, rfl⟩ := hy
    rw [e1] at e2; cases e2
    rw [run_equalIn_int w d t _ kk _ _ hu]; simp
  · rename_i a m b m2 hu
    obtain ⟨h1, rfl⟩ := bif_some h
    rw [Nat.beq_eq] at h1; subst h1
    obtain ⟨n1, d1, s1, e1, rfl, h1, _⟩ := hx
    obtain ⟨n2, d2, s2, e2, rfl, h2, _⟩ := hy
    rw [e1] at e2; cases e2
    rw [run_equalIn_string w d t s1 s2 hu, h1.beq h2]; simp
  · cases h
noncomputable def evFields (P : Program) (l m : AVs) : List Field → Option Bool
  | [] => some true
  | f :: fs => bif f.name == "_" then none else match evPart P f.type l f.offset, evPart P f.type m f.offset with
    | some x, some y => match evScal P f.type x y with
      | some true => evFields P l m fs
      | some false => some false
      | none => none
    | _, _ => none
theorem evFields_run {l m : AVs} {c d : Array Value} (hc : VsRel ρ l c.toList) (hd : VsRel ρ m d.toList) (k : Nat) (w : World) : ∀ {fs : List Field} {r : Bool}, evFields P l m fs = some r → (Op.eqFields (k + 1) c d fs).run P w = .ok r w
  | [], r, e => by simp only [evFields] at e; cases e; rfl
  | f :: fs, r, e => by
    simp only [evFields] at e
    cases hn : f.name == "_" with
    | true => simp [hn] at e
    | false =>
      rw [hn, cond_false] at e
      have hne : f.name ≠ "_" := by simpa using hn
      split at e
      · rename_i x y hx hy
        obtain ⟨u, hu1, hu2⟩ := evPart_run hc hx
        obtain ⟨v, hv1, hv2⟩ := evPart_run hd hy
        split at e
        · rename_i hs
          have := evScal_run (P := P) hu2 hv2 hs k w
          simp only [Op.eqFields, if_pos hne, Sem.run_bind, hu1 w, Result.andThen_ok, hv1 w, this]
          simpa using evFields_run hc hd k w e
        · rename_i hs
          cases e
          have := evScal_run (P := P) hu2 hv2 hs k w
          simp only [Op.eqFields, if_pos hne, Sem.run_bind, hu1 w, Result.andThen_ok, hv1 w, this]
          simp
        · cases e
      · cases e
/-- Two structs. -/
def structTy (P : Program) (t : TypeId) : Bool :=
  (match P.underlying t with | some (.struct _) => true | _ => false) && (!P.stoodInHeld t && !P.eqGuardType P.depth t)
noncomputable def evStructEq (P : Program) (op : BinOp) (t : TypeId) (x y : AV) : Option AV :=
  match x, y with
  | .agg l, .agg m => bif structTy P t then match evFields P l m (P.fieldsOf t).toList with
    | some r => (match op with | .eql => some (.b r) | .neq => some (.b (!r)) | _ => none)
    | none => none else none
  | _, _ => none
theorem evStructEq_run {op : BinOp} {t : TypeId} {ox oy : Operand} {x y : AV} {x' y' : Value} (hx : VRel ρ x x') (hy : VRel ρ y y') {v : AV} (h : evStructEq P op t x y = some v) :
    ∃ u, (∀ w, (do eqGuard op t ox oy x' y'; binOp op t x' y' : Sem Value).run P w = .ok u w) ∧ VRel ρ v u := by
  unfold evStructEq at h
  split at h
  · rename_i l m
    obtain ⟨c, rfl, hc⟩ := hx
    obtain ⟨d, rfl, hd⟩ := hy
    obtain ⟨h1, h2⟩ := bif_some' h
    clear h; have h := h2; clear h2
    unfold structTy at h1
    rw [Bool.and_eq_true, Bool.and_eq_true, Bool.not_eq_true', Bool.not_eq_true'] at h1
    obtain ⟨hs, hp, hg⟩ := h1
    have ht : P.underlying t = some (.struct (P.fieldsOf t)) := by
      unfold Program.fieldsOf
      split at hs
      · rename_i fs hu; simp [hu]
      · cases hs
    split at h
    · rename_i r hr
      have key : ∀ w, (Op.equalIn 10000 t (.agg c) (.agg d)).run P w = .ok r w := fun w => by
        rw [run_equalIn_struct w 9999 t c d ht hp]
        exact evFields_run hc hd 9998 w hr
      have hg' : ∀ w, (eqGuard op t ox oy (.agg c) (.agg d)).run P w = .ok () w := fun w => run_eqGuard_agg w op t ox oy c d hg
      split at h <;> cases h
      · exact ⟨.bool r, fun w => by simp only [Sem.run_bind, hg', Result.andThen_ok, run_eql_struct, key], rfl⟩
      · exact ⟨.bool (!r), fun w => by simp only [Sem.run_bind, hg', Result.andThen_ok, run_neq_struct, key], rfl⟩
    · cases h
  · cases h
/-- Two that are known in part: the same one, or numbers that lie apart. -/
noncomputable def evYC (op : BinOp) (lo hi c : Int) : Option Bool :=
  match op with
  | .lss => bif ltI hi c then some true else bif ltI lo c then none else some false
  | .geq => bif ltI hi c then some false else bif ltI lo c then none else some true
  | .gtr => bif ltI c lo then some true else bif ltI c hi then none else some false
  | .leq => bif ltI c lo then some false else bif ltI c hi then none else some true
  | .eql => bif ltI hi c || ltI c lo then some false else none
  | .neq => bif ltI hi c || ltI c lo then some true else none
  | _ => none
noncomputable def evY (P : Program) (op : BinOp) (t : TypeId) (x y : AV) : Option AV :=
  match x, y with
  | .y (.g lo hi), .i k c => bif eqK k .i64 then match evYC op lo hi c with | some r => some (.b r) | none => none else none
  | .y (.i j a), .y (.i k b) => bif eqK j k && Nat.beq a b then (match op with | .eql => some (.b true) | .neq => some (.b false) | _ => none) else none
  | .y (.t a _), .y (.t b _) => bif Nat.beq a b then (match op with | .eql => some (.b true) | .neq => some (.b false) | _ => none) else none
  | _, _ => none
def none_Y : Map := fun _ => none
theorem evYC_run {op : BinOp} {t : TypeId} {lo hi c z : Int} (h0 : lo ≤ z) (h1 : z ≤ hi) {r : Bool} (h : evYC op lo hi c = some r) (w : World) : (binOp op t (.int .i64 z) (.int .i64 c)).run P w = .ok (.bool r) w := by
  have key : ∀ q : Bool, evInt op .i64 z c = some (.b q) → q = r → op ≠ .shl → op ≠ .shr → (binOp op t (.int .i64 z) (.int .i64 c)).run P w = .ok (.bool r) w := by
    intro q hq e n1 n2
    obtain ⟨u, k1, k2⟩ := evInt_run (ρ := none_Y) (P := P) (t := t) n1 n2 hq
    cases k2; rw [← e]; exact k1 w
  unfold evYC at h
  split at h
  · refine key (ltI z c) rfl ?_ (by simp) (by simp)
    simp only [ltI_eq] at h ⊢
    by_cases a : hi < c
    · simp [a] at h; subst h; simp; omega
    · by_cases b : lo < c
      · simp [a, b] at h
      · simp [a, b] at h; subst h; simp; omega
  · refine key (!ltI z c) rfl ?_ (by simp) (by simp)
    simp only [ltI_eq] at h ⊢
    by_cases a : hi < c
    · simp [a] at h; subst h; simp; omega
    · by_cases b : lo < c
      · simp [a, b] at h
      · simp [a, b] at h; subst h; simp; omega
  · refine key (ltI c z) rfl ?_ (by simp) (by simp)
    simp only [ltI_eq] at h ⊢
    by_cases a : c < lo
    · simp [a] at h; subst h; simp; omega
    · by_cases b : c < hi
      · simp [a, b] at h
      · simp [a, b] at h; subst h; simp; omega
  · refine key (!ltI c z) rfl ?_ (by simp) (by simp)
    simp only [ltI_eq] at h ⊢
    by_cases a : c < lo
    · simp [a] at h; subst h; simp; omega
    · by_cases b : c < hi
      · simp [a, b] at h
      · simp [a, b] at h; subst h; simp; omega
  · obtain ⟨h2, rfl⟩ := bif_some h
    simp only [ltI_eq, Bool.or_eq_true, decide_eq_true_iff] at h2
    refine key (eqI z c) rfl ?_ (by simp) (by simp)
    rw [eqI_eq, decide_eq_false_iff_not]; omega
  · obtain ⟨h2, rfl⟩ := bif_some h
    simp only [ltI_eq, Bool.or_eq_true, decide_eq_true_iff] at h2
    refine key (!eqI z c) rfl ?_ (by simp) (by simp)
    rw [eqI_eq, Bool.not_eq_true', decide_eq_false_iff_not]; omega
  · cases h
theorem evY_run {op : BinOp} {t : TypeId} {ox oy : Operand} {x y : AV} {x' y' : Value} (hx : VRel ρ x x') (hy : VRel ρ y y') {v : AV} (h : evY P op t x y = some v) :
    ∃ u, (∀ w, (do eqGuard op t ox oy x' y'; binOp op t x' y' : Sem Value).run P w = .ok u w) ∧ VRel ρ v u := by
  unfold evY at h
  split at h
  · rename_i lo hi k c
    obtain ⟨h1, h2⟩ := bif_some' h
    have := eqK_eq h1; subst this
    obtain ⟨z, rfl, z0, z1⟩ := hx
    cases hy
    split at h2 <;> cases h2
    rename_i r hr
    have hg : ∀ w, (eqGuard op t ox oy (.int .i64 z) (.int .i64 c)).run P w = .ok () w := fun w => by cases op <;> rfl
    exact ⟨.bool r, fun w => by simp only [Sem.run_bind, hg, Result.andThen_ok, evYC_run (P := P) z0 z1 hr w], rfl⟩
  · rename_i j a k b
    obtain ⟨hb, h2⟩ := bif_some' h
    rw [Bool.and_eq_true, Nat.beq_eq] at hb
    obtain ⟨hk, rfl⟩ := hb
    have := eqK_eq hk; subst this
    obtain ⟨b1, C1, e1, rfl⟩ := hx
    obtain ⟨b2, C2, e2, rfl⟩ := hy
    rw [e1] at e2; cases e2
    have hg : ∀ w, (eqGuard op t ox oy (.int j (decI b1)) (.int j (decI b1))).run P w = .ok () w := fun w => by cases op <;> rfl
    split at h2 <;> cases h2
    · obtain ⟨u, k1, k2⟩ := evInt_run (ρ := none_Y) (P := P) (t := t) (op := .eql) (k := j) (x := decI b1) (y := decI b1) (by simp) (by simp) rfl
      cases k2
      exact ⟨_, fun w => by simp only [Sem.run_bind, hg, Result.andThen_ok]; exact k1 w, by rw [eqI_eq]; simp; rfl⟩
    · obtain ⟨u, k1, k2⟩ := evInt_run (ρ := none_Y) (P := P) (t := t) (op := .neq) (k := j) (x := decI b1) (y := decI b1) (by simp) (by simp) rfl
      cases k2
      exact ⟨_, fun w => by simp only [Sem.run_bind, hg, Result.andThen_ok]; exact k1 w, by rw [eqI_eq]; simp; rfl⟩
  · rename_i a m b m2
    obtain ⟨hb, h2'⟩ := bif_some' h
    rw [Nat.beq_eq] at hb; subst hb
    obtain ⟨n1, d1, s1, e1, rfl, h1, _⟩ := hx
    obtain ⟨n2, d2, s2, e2, rfl, h2, _⟩ := hy
    rw [e1] at e2; cases e2
    have hg : ∀ w, (eqGuard op t ox oy (.string s1) (.string s2)).run P w = .ok () w := fun w => by cases op <;> rfl
    split at h2' <;> cases h2'
    · obtain ⟨u, k1, k2⟩ := evStr_run (ρ := none_Y) (P := P) (t := t) (op := .eql) h1 h2 rfl
      cases k2
      exact ⟨_, fun w => by simp only [Sem.run_bind, hg, Result.andThen_ok]; exact k1 w, by simp; rfl⟩
    · obtain ⟨u, k1, k2⟩ := evStr_run (ρ := none_Y) (P := P) (t := t) (op := .neq) h1 h2 rfl
      cases k2
      exact ⟨_, fun w => by simp only [Sem.run_bind, hg, Result.andThen_ok]; exact k1 w, by simp; rfl⟩
  · cases h
end Go.Proofs.YteogphbdpjnjoaaGreat
