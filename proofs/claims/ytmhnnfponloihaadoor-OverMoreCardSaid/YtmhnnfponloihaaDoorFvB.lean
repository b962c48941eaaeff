/- A closed run, run quickly: operations that enter no function. No Go program in this text. -/
import Derived.Test.YtmhnnfponloihaaDoorFvA
set_option linter.unusedSimpArgs false
set_option linter.unusedVariables false
namespace Go.Proofs.YtmhnnfponloihaaDoor
open Go.RowKit
variable {P : Program} {N : Nat}

/-- n cells from a place on. -/
noncomputable def rdF (n : Nat) : T AV → Nat → Option AVs :=
  Nat.rec (motive := fun _ => T AV → Nat → Option AVs) (fun _ _ => some .nil) (fun _ ih t off => onO (t.get off) none fun v => onO (ih t (Nat.succ off)) none fun l => some (AVs.cons v l)) n
theorem rdF_eq : ∀ (n : Nat) (t : T AV) (off : Nat), rdF n t off = readN t n off
  | 0, _, _ => rfl
  | n + 1, t, off => by
    show onO (t.get off) none (fun v => onO (rdF n t (Nat.succ off)) none fun l => some (AVs.cons v l)) = _
    rw [rdF_eq n]; simp only [readN]
    cases t.get off with
    | none => rfl
    | some v => cases readN t n (Nat.succ off) <;> rfl
/-- A load's cells. -/
noncomputable def cLd (P : Program) (t : TypeId) : Hd (T AV → Nat → Option AV) :=
  match aggTy P t, sizeTy P t with
  | 1, some n => .mk fun tr off => onO (rdF n tr off) none fun l => some (.agg l)
  | 2, _ => .mk fun tr off => tr.get off
  | _, _ => .mk fun _ _ => none
noncomputable def ldF (ld : T AV → Nat → Option AV) (h : T AO) (x : AV) : Option AV := x.onP none fun id off => onO (h.get id) none fun o => o.onRd none fun tr => ld tr off
theorem ldF_eq (t : TypeId) (h : T AO) (x : AV) : ldF (cLd P t).un h x = evLoad P h t x := by
  cases x <;> try rfl
  rename_i id off
  show onO (h.get id) none _ = _
  simp only [evLoad]
  cases h.get id with
  | none => rfl
  | some o =>
    simp only [onO_some]
    have key : ∀ tr : T AV, (cLd P t).un tr off = (match aggTy P t, sizeTy P t with | 1, some n => (match readN tr n off with | some l => some (AV.agg l) | none => none) | 2, _ => tr.get off | _, _ => none) := by
      intro tr
      unfold cLd
      split
      · rename_i n h1 h2
        simp only [Hd.un_mk, rdF_eq]
        cases readN tr n off <;> rfl
      · rfl
      · rfl
    cases o with
    | iter _ _ _ => rfl
    | lp _ _ _ _ _ _ => rfl
    | mps _ => rfl
    | cells tr n e => exact key tr
    | grow tr n z e => exact key tr
    | ro tr => exact key tr
noncomputable def lenF (l : AVs) : Nat := AVs.rec (motive_1 := fun _ => PUnit.{1}) (motive_2 := fun _ => Nat) (fun _ => ⟨⟩) (fun _ _ => ⟨⟩) (fun _ _ => ⟨⟩) (fun _ _ => ⟨⟩) ⟨⟩ (fun _ _ _ _ => ⟨⟩) (fun _ _ _ => ⟨⟩) (fun _ _ => ⟨⟩) ⟨⟩ (fun _ _ _ => ⟨⟩) ⟨⟩ (fun _ => ⟨⟩) (fun _ _ _ => ⟨⟩) (fun _ _ _ => ⟨⟩) ⟨⟩ (fun _ => ⟨⟩) ⟨⟩ (fun _ _ => ⟨⟩) (fun _ _ => ⟨⟩) 0 (fun _ _ _ ih => Nat.succ ih) l
/-- A store of one cell, and any. -/
noncomputable def st1 (h : T AO) (nx : Nat) (x v : AV) (slow : R) : R :=
  x.onP slow fun id off => onO (h.get id) slow fun o => o.onTr slow fun tr mk => onO (tr.get off) slow fun _ => (tr.put off v).seq fun t' => (h.put id (mk t')).seq fun h => .ok (.tup .nil) h nx
noncomputable def one1 (v : AV) (a b : R) : R := AV.rec (motive_1 := fun _ => R) (motive_2 := fun _ => PUnit.{1}) (fun _ => a) (fun _ _ => a) (fun _ _ => a) (fun _ _ => a) a (fun _ _ _ _ => a) (fun _ _ _ => a) (fun _ _ => a) a (fun _ _ _ => a) a (fun _ => a) (fun _ _ _ => a) (fun _ _ _ => a) a (fun _ => a) a (fun _ _ => b) (fun _ _ => b) ⟨⟩ (fun _ _ _ _ => ⟨⟩) v
noncomputable def cSt (P : Program) (t : TypeId) : Hd (T AO → Nat → AV → AV → R) :=
  match sizeTy P t with
  | some 1 => .mk fun h nx x v => one1 v (st1 h nx x v (evStore P h nx t x v)) (evStore P h nx t x v)
  | _ => .mk fun h nx x v => evStore P h nx t x v
theorem st1_eq {t : TypeId} (hs : sizeTy P t = some 1) (h : T AO) (nx : Nat) (x v : AV) (h1 : v.cells = .cons v .nil) (h2 : v.one = true) : st1 h nx x v (evStore P h nx t x v) = evStore P h nx t x v := by
  cases x <;> try rfl
  rename_i id off
  show onO (h.get id) _ _ = _
  cases e : h.get id with
  | none => rfl
  | some o =>
    simp only [onO_some]
    have key : ∀ tr : T AV, o.tr = some tr → onO (tr.get off) (evStore P h nx t (.p id off) v) (fun _ => (tr.put off v).seq fun t' => (h.put id (o.setTr t')).seq fun h => R.ok (.tup .nil) h nx) = evStore P h nx t (.p id off) v := by
      intro tr htr
      cases g : tr.get off with
      | none => rfl
      | some y =>
        simp only [onO_some, T.seq_eq, evStore, hs, e, htr, h1]
        have hl : (AVs.cons v .nil).len = 1 := rfl
        have ho : (AVs.cons v .nil).ones = true := by simp [AVs.ones, h2]
        rw [hl, ho]
        simp only [beq_t (rfl : (1:Nat) = 1), Bool.and_true, cond_true, writeN_cons, g, writeN, T.seq_eq]
    cases o with
    | iter _ _ _ => rfl
    | lp _ _ _ _ _ _ => rfl
    | mps _ => rfl
    | ro tr => rfl
    | cells tr n e => exact key tr rfl
    | grow tr n z e => exact key tr rfl
theorem cSt_eq (t : TypeId) (h : T AO) (nx : Nat) (x v : AV) : (cSt P t).un h nx x v = evStore P h nx t x v := by
  unfold cSt
  split
  · rename_i hs
    simp only [Hd.un_mk]
    cases v <;> first | exact st1_eq hs h nx x _ rfl rfl | rfl
  · rfl
/-- An element's place. -/
noncomputable def cIdx (P : Program) (t : TypeId) : Hd (AV → Int → Option AV) :=
  match idxTy P t with
  | (1, z, _) => .mk fun x n => Int.rec (motive := fun _ => Option AV) (fun k => x.onRow none
      (fun id off len _ => onB (Nat.ble (Nat.succ k) len) (some (.p id (Nat.add off (Nat.mul k z)))) none)
      (fun id off len => onB (Nat.ble (Nat.succ k) len) (some (.p id (Nat.add off (Nat.mul k z)))) none)
      (fun id len => onB (Nat.ble (Nat.succ k) len) (some (.p id (Nat.mul k z))) none)) (fun _ => none) n
  | _ => .mk fun x n => evIdx P t x n
theorem onB_eq {α : Type} (b : Bool) (x y : α) : onB b x y = bif b then x else y := by cases b <;> rfl
theorem cIdx_eq (t : TypeId) (x : AV) (n : Int) : (cIdx P t).un x n = evIdx P t x n := by
  unfold cIdx
  split
  · rename_i z y hi
    cases n with
    | negSucc k => simp only [Hd.un_mk, evIdx, hi, natOf]
    | ofNat k =>
      simp only [Hd.un_mk, evIdx, hi, natOf]
      cases x <;> first | rfl | (exact onB_eq ..)
  · rfl
/-- A byte of a text. -/
noncomputable def strF (n d : Nat) (i : Int) : Option AV := Int.rec (motive := fun _ => Option AV) (fun k => onB (Nat.ble (Nat.succ k) n) (some (.i .u8 (.ofNat (Nat.mod (Nat.shiftRight d (Nat.mul 8 k)) 256)))) none) (fun _ => none) i
noncomputable def cIx (P : Program) (t : TypeId) : Hd (AV → AV → Option AV) :=
  match P.underlying t with
  | some .string => .mk fun x i => x.onS (evIndex P t x i) fun n d => i.onI (evIndex P t x i) fun _ k => strF n d k
  | _ => .mk fun x i => evIndex P t x i
theorem cIx_eq (t : TypeId) (x i : AV) : (cIx P t).un x i = evIndex P t x i := by
  unfold cIx
  split
  · rename_i hu
    cases x <;> try rfl
    cases i <;> try rfl
    rename_i n d k j
    show strF n d j = evStrAt P t n d j
    simp only [evStrAt, hu]
    cases j with
    | negSucc k => rfl
    | ofNat k => exact onB_eq ..
  · rfl
/-- A length. -/
noncomputable def cLen (P : Program) (t : TypeId) : Hd (AV → Option AV) :=
  match lenTy P t with
  | 1 => .mk fun x => x.onS none fun n _ => some (.i .i64 (.ofNat n))
  | 2 => .mk fun x => x.onLen none (fun _ _ => none) (fun _ _ n _ => some (.i .i64 (.ofNat n))) (fun _ _ n => some (.i .i64 (.ofNat n))) (fun _ n => some (.i .i64 (.ofNat n))) (some (.i .i64 (.ofNat 0)))
  | _ => .mk fun x => evLen P t x
theorem cLen_eq (t : TypeId) (x : AV) : (cLen P t).un x = evLen P t x := by
  unfold cLen
  split
  · rename_i hu; simp only [Hd.un_mk, evLen, hu]; cases x <;> rfl
  · rename_i hu; simp only [Hd.un_mk, evLen, hu]; cases x <;> rfl
  · rfl
/-- Two values. -/
noncomputable def binSlow (P : Program) (op : BinOp) (t : TypeId) (c : Bool) (u v : AV) (h : T AO) (nx : Nat) : R :=
  match evBin P op t c u v with
  | some r => .ok r h nx
  | none => match evPtr P op t u v with
    | some r => .ok r h nx
    | none => ofO h nx (evStructEq P op t u v)
noncomputable def twoI (f : IntKind → Int → Int → AV) (u v : AV) (slow : R) (h : T AO) (nx : Nat) : R := u.onI slow fun j a => v.onI slow fun k b => onB (eqK j k) (.ok (f j a b) h nx) slow
noncomputable def twoIS (f : Int → Int → Bool) (g : Nat → Nat → Nat → Nat → Bool) (u v : AV) (slow : R) (h : T AO) (nx : Nat) : R :=
  u.onIS slow (fun j a => v.onI slow fun k b => onB (eqK j k) (.ok (.b (f a b)) h nx) slow) (fun n d => v.onS slow fun m e => .ok (.b (g n d m e)) h nx)
noncomputable def sameS (n d m e : Nat) : Bool := onB (Nat.beq n m) (Nat.beq d e) false
noncomputable def cBin (P : Program) (op : BinOp) (t : TypeId) (c : Bool) : Hd (AV → AV → T AO → Nat → R) :=
  match op with
  | .add => .mk fun u v h nx => twoI (fun j a b => .i j (addF j a b)) u v (binSlow P .add t c u v h nx) h nx
  | .sub => .mk fun u v h nx => twoI (fun j a b => .i j (subF j a b)) u v (binSlow P .sub t c u v h nx) h nx
  | .lss => .mk fun u v h nx => twoI (fun _ a b => .b (ltF a b)) u v (binSlow P .lss t c u v h nx) h nx
  | .gtr => .mk fun u v h nx => twoI (fun _ a b => .b (ltF b a)) u v (binSlow P .gtr t c u v h nx) h nx
  | .leq => .mk fun u v h nx => twoI (fun _ a b => .b (onB (ltF b a) false true)) u v (binSlow P .leq t c u v h nx) h nx
  | .geq => .mk fun u v h nx => twoI (fun _ a b => .b (onB (ltF a b) false true)) u v (binSlow P .geq t c u v h nx) h nx
  | .eql => .mk fun u v h nx => twoIS eqF sameS u v (binSlow P .eql t c u v h nx) h nx
  | .neq => .mk fun u v h nx => twoIS (fun a b => onB (eqF a b) false true) (fun n d m e => onB (sameS n d m e) false true) u v (binSlow P .neq t c u v h nx) h nx
  | op => .mk fun u v h nx => binSlow P op t c u v h nx
theorem twoI_eq {op : BinOp} (h1 : op ≠ .shl) (h2 : op ≠ .shr) {t : TypeId} {c : Bool} {f : IntKind → Int → Int → AV} (hf : ∀ k x y, evInt op k x y = some (f k x y)) (u v : AV) (h : T AO) (nx : Nat) : twoI f u v (binSlow P op t c u v h nx) h nx = binSlow P op t c u v h nx := by
  cases u <;> try rfl
  cases v <;> try rfl
  rename_i j a k b
  show onB (eqK j k) _ _ = _
  cases e : eqK j k with
  | false => rfl
  | true =>
    have hb : evBin P op t c (.i j a) (.i k b) = some (f j a b) := by
      rw [← hf]; cases op <;> first | exact absurd rfl h1 | exact absurd rfl h2 | (simp only [evBin, e, cond_true])
    simp only [binSlow, hb]; rfl
theorem not_onB (b : Bool) : onB b false true = !b := by cases b <;> rfl
theorem sameS_eq (n d m e : Nat) : sameS n d m e = (Nat.beq n m && Nat.beq d e) := by unfold sameS; cases Nat.beq n m <;> rfl
theorem cBin_eq (op : BinOp) (t : TypeId) (c : Bool) (u v : AV) (h : T AO) (nx : Nat) : (cBin P op t c).un u v h nx = binSlow P op t c u v h nx := by
  cases op <;> try rfl
  case add => exact twoI_eq (by simp) (by simp) (fun k x y => by simp only [evInt, addF_eq]) u v h nx
  case sub => exact twoI_eq (by simp) (by simp) (fun k x y => by simp only [evInt, subF_eq]) u v h nx
  case lss => exact twoI_eq (by simp) (by simp) (fun k x y => by simp only [evInt, ltF_eq]) u v h nx
  case gtr => exact twoI_eq (by simp) (by simp) (fun k x y => by simp only [evInt, ltF_eq]) u v h nx
  case leq => exact twoI_eq (by simp) (by simp) (fun k x y => by simp only [evInt, ltF_eq, not_onB]) u v h nx
  case geq => exact twoI_eq (by simp) (by simp) (fun k x y => by simp only [evInt, ltF_eq, not_onB]) u v h nx
  case eql =>
    have hi := twoI_eq (P := P) (op := .eql) (by simp) (by simp) (t := t) (c := c) (f := fun _ a b => .b (eqF a b)) (fun k x y => by simp only [evInt, eqF_eq]) u v h nx
    cases u <;> try rfl
    · exact hi
    · cases v <;> try rfl
      rename_i n d m e
      show R.ok (.b (sameS n d m e)) h nx = _
      simp only [binSlow, evBin, evStr, sameS_eq]
  case neq =>
    have hi := twoI_eq (P := P) (op := .neq) (by simp) (by simp) (t := t) (c := c) (f := fun _ a b => .b (onB (eqF a b) false true)) (fun k x y => by simp only [evInt, eqF_eq, not_onB]) u v h nx
    cases u <;> try rfl
    · exact hi
    · cases v <;> try rfl
      rename_i n d m e
      show R.ok (.b (onB (sameS n d m e) false true)) h nx = _
      simp only [binSlow, evBin, evStr, sameS_eq, not_onB]
abbrev OpF := T AV → T AO → Nat → R
noncomputable def k1 (g : T AV → Option AV) (k : AV → T AO → Nat → R) : OpF := fun sl h nx => onO (g sl) .bad fun v => k v h nx
noncomputable def k2 (g f : T AV → Option AV) (k : AV → AV → T AO → Nat → R) : OpF := fun sl h nx => onO (g sl) .bad fun u => onO (f sl) .bad fun v => k u v h nx
noncomputable def okO (o : Option AV) (h : T AO) (nx : Nat) : R := onO o .bad fun v => .ok v h nx
theorem okO_eq (o : Option AV) (h : T AO) (nx : Nat) : okO o h nx = ofO h nx o := by cases o <;> rfl
noncomputable def getF (l : AVs) (i : Nat) : Option AV :=
  AVs.rec (motive_1 := fun _ => PUnit.{1}) (motive_2 := fun _ => Nat → Option AV) (fun _ => ⟨⟩) (fun _ _ => ⟨⟩) (fun _ _ => ⟨⟩) (fun _ _ => ⟨⟩) ⟨⟩ (fun _ _ _ _ => ⟨⟩) (fun _ _ _ => ⟨⟩) (fun _ _ => ⟨⟩) ⟨⟩ (fun _ _ _ => ⟨⟩) ⟨⟩ (fun _ => ⟨⟩) (fun _ _ _ => ⟨⟩) (fun _ _ _ => ⟨⟩) ⟨⟩ (fun _ => ⟨⟩) ⟨⟩ (fun _ _ => ⟨⟩) (fun _ _ => ⟨⟩) (fun _ => none) (fun a _ _ ih n => Nat.rec (motive := fun _ => Option AV) (some a) (fun m _ => ih m) n) l i
theorem getF_eq : ∀ (l : AVs) (i : Nat), getF l i = l.get i
  | .nil, _ => rfl
  | .cons a l, 0 => rfl
  | .cons a l, n + 1 => getF_eq l n
/-- A field of a struct. -/
noncomputable def cFld (P : Program) (t : TypeId) (i : Nat) : Hd (AVs → Option AV) :=
  match P.underlying t with
  | some (.struct fs) => match fs[i]? with
    | some f => match aggTy P f.type with
      | 2 => .mk fun l => getF l f.offset
      | _ => .mk fun l => evPart P f.type l f.offset
    | none => .mk fun _ => none
  | _ => .mk fun _ => none
theorem cFld_eq (t : TypeId) (i : Nat) (l : AVs) : (cFld P t i).un l = evFieldV P t l i := by
  unfold cFld evFieldV
  cases hu : P.underlying t with
  | none => rfl
  | some d =>
    cases d <;> try rfl
    rename_i fs
    simp only
    cases hf : fs[i]? with
    | none => rfl
    | some f =>
      simp only
      split
      · rename_i ha; simp only [Hd.un_mk, getF_eq, evPart, ha]
      · rfl
/-- A text cut. -/
noncomputable def strCut (n d : Nat) (lo hi : Option Nat) : Option AV :=
  onO lo (onO hi (some (.s n (Nat.mod d (Nat.pow 2 (Nat.mul 8 n))))) fun h => onB (Nat.ble h n) (some (.s h (Nat.mod d (Nat.pow 2 (Nat.mul 8 h))))) none)
    fun l => onO hi (onB (Nat.ble l n) (some (.s (Nat.sub n l) (Nat.mod (Nat.shiftRight d (Nat.mul 8 l)) (Nat.pow 2 (Nat.mul 8 (Nat.sub n l)))))) none)
      fun h => onB (Nat.ble l h) (onB (Nat.ble h n) (some (.s (Nat.sub h l) (Nat.mod (Nat.shiftRight d (Nat.mul 8 l)) (Nat.pow 2 (Nat.mul 8 (Nat.sub h l)))))) none) none
theorem ble_refl (n : Nat) : Nat.ble n n = true := by rw [Nat.ble_eq]; exact Nat.le_refl n
theorem ble_zero (n : Nat) : Nat.ble 0 n = true := by rw [Nat.ble_eq]; exact Nat.zero_le n
theorem strCut_eq {t : TypeId} {a b : Nat} (ht : sliceTy P t = (1, a, b)) (n d : Nat) (lo hi : Option Nat) : strCut n d lo hi = evSlice P t (.s n d) lo hi none := by
  have sh : Nat.shiftRight d (Nat.mul 8 0) = d := rfl
  have md : ∀ a b : Nat, Nat.mod a b = a % b := fun _ _ => rfl
  cases lo with
  | none =>
    cases hi with
    | none => simp only [strCut, onO_none, evSlice, ht, evCut, ble_zero, ble_refl, Bool.and_true, cond_true, sh, md]; rfl
    | some h =>
      simp only [strCut, onO_none, onO_some, evSlice, ht, evCut, onB_eq]
      cases hb : Nat.ble h n with
      | false => rfl
      | true => simp only [cond_true, ble_zero, hb, Bool.and_true, sh, md]; rfl
  | some l =>
    cases hi with
    | none =>
      simp only [strCut, onO_none, onO_some, evSlice, ht, evCut, onB_eq]
      cases hb : Nat.ble l n with
      | false => rfl
      | true => simp only [cond_true, hb, ble_refl, Bool.and_true, md]
    | some h =>
      simp only [strCut, onO_some, evSlice, ht, evCut, onB_eq]
      cases hb : Nat.ble l h with
      | false => rfl
      | true =>
        cases hc : Nat.ble h n with
        | false => rfl
        | true => simp only [cond_true, hb, hc, Bool.and_true, md]
noncomputable def cSlc (P : Program) (t : TypeId) : Hd (AV → Option Nat → Option Nat → Option Nat → Option AV) :=
  match sliceTy P t with
  | (1, _, _) => .mk fun x lo hi mx => x.onS (evSlice P t x lo hi mx) fun n d => onO mx (strCut n d lo hi) fun _ => none
  | _ => .mk fun x lo hi mx => evSlice P t x lo hi mx
theorem cSlc_eq (t : TypeId) (x : AV) (lo hi mx : Option Nat) : (cSlc P t).un x lo hi mx = evSlice P t x lo hi mx := by
  unfold cSlc
  split
  · rename_i a b ht
    cases x <;> try rfl
    rename_i n d
    cases mx with
    | none => exact strCut_eq ht n d lo hi
    | some m => simp only [evSlice, ht]; rfl
  · rfl
/-- A number, or a rune, turned. -/
noncomputable def convSlow (P : Program) (s d : TypeId) (v : AV) (h : T AO) (nx : Nat) : R :=
  match evConv P s d v with
  | some r => .ok r h nx
  | none => match sbTy P s d with
    | some _ => evSBytes P h nx s d v
    | none => ofO h nx (evConvM P h s d v)
noncomputable def cConv (P : Program) (s d : TypeId) : Hd (AV → T AO → Nat → R) :=
  match convTy P s d with
  | (1, k) => .mk fun v h nx => v.onI (convSlow P s d v h nx) fun _ n => .ok (.i k (wrapF k n)) h nx
  | _ => .mk fun v h nx => convSlow P s d v h nx
theorem cConv_eq (s d : TypeId) (v : AV) (h : T AO) (nx : Nat) : (cConv P s d).un v h nx = convSlow P s d v h nx := by
  unfold cConv
  split
  · rename_i k hk
    cases v <;> try rfl
    simp only [convSlow, evConv, hk]; rfl
  · rfl
noncomputable def cUn (op : UnOp) : Hd (AV → T AO → Nat → R) :=
  match op with
  | .not => .mk fun v h nx => v.onB .bad fun b => .ok (.b (onB b false true)) h nx
  | op => .mk fun v h nx => ofO h nx (evUn op v)
theorem cUn_eq (op : UnOp) (v : AV) (h : T AO) (nx : Nat) : (cUn op).un v h nx = ofO h nx (evUn op v) := by
  cases op <;> try rfl
  cases v <;> try rfl
  rename_i b; cases b <;> rfl
noncomputable def nextF (h : T AO) (nx : Nat) (x : AV) : R :=
  x.onP .bad fun id off => onB (Nat.beq off 0) (onO (h.get id) .bad fun o => o.onIter .bad fun n d i => onB (Nat.ble (Nat.succ i) n)
    (onB (Nat.ble 128 (Nat.mod (Nat.shiftRight d (Nat.mul 8 i)) 256)) (evNext h nx x true) ((h.put id (.iter n d (Nat.succ i))).seq fun h => .ok (.tup (.cons (.b true) (.cons (.i .i64 (.ofNat i)) (.cons (.i .i32 (.ofNat (Nat.mod (Nat.shiftRight d (Nat.mul 8 i)) 256))) .nil)))) h nx))
    (.ok (.tup (.cons (.b false) .nil)) h nx)) .bad
theorem nextF_eq (h : T AO) (nx : Nat) (x : AV) : nextF h nx x = evNext h nx x true := by
  cases x <;> try rfl
  rename_i id off
  cases off with
  | succ off => rfl
  | zero =>
    show onO (h.get id) _ _ = _
    cases e : h.get id with
    | none => simp only [evNext, e]; rfl
    | some o =>
      cases o <;> try (simp only [evNext, e]; rfl; done)
      rename_i n d i
      simp only [onO_some, AO.onIter]
      have e1 : evNext h nx (.p id 0) true = (bif Nat.ble (Nat.succ i) n then (match decN n d i with | (c, k) => (h.put id (.iter n d (Nat.add i k))).seq fun h => R.ok (.tup (.cons (.b true) (.cons (.i .i64 (.ofNat i)) (.cons (.i .i32 (.ofNat c)) .nil)))) h nx) else .ok (.tup (.cons (.b false) .nil)) h nx) := by
        simp only [evNext, e]
      rw [onB_eq]
      cases hb : Nat.ble (Nat.succ i) n with
      | false => rw [e1, hb]; rfl
      | true =>
        rw [cond_true, onB_eq]
        cases hc : Nat.ble 128 (Nat.mod (Nat.shiftRight d (Nat.mul 8 i)) 256) with
        | true => rfl
        | false =>
          rw [e1, hb, cond_true, cond_false]
          have hd : decN n d i = (byteAt d i, 1) := by
            have : Nat.ble 128 (byteAt d i) = false := hc
            simp only [decN, this, cond_false]
          rw [hd]; rfl
/-- An operation that enters no function. -/
noncomputable def cM (P : Program) (op : Op) : Hd OpF :=
  match op with
  | .move x => (cX x).bind fun g => .mk (k1 g fun v h nx => .ok v h nx)
  | .assign x => (cX x).bind fun g => .mk (k1 g fun v h nx => .ok v h nx)
  | .load t x => (cX x).bind fun g => (cLd P t).bind fun ld => .mk (k1 g fun v h nx => okO (ldF ld h v) h nx)
  | .store t x y => (cX x).bind fun g => (cX y).bind fun f => (cSt P t).bind fun st => .mk (k2 g f fun u v h nx => st h nx u v)
  | .binOp op t x y _ => (cX x).bind fun g => (cX y).bind fun f => (cBin P op t (isC x || isC y)).bind fun b => .mk (k2 g f fun u v h nx => b u v h nx)
  | .fieldAddr t x i => (cX x).bind fun g => match fieldOff P t i with
    | some n => .mk (k1 g fun v h nx => v.onP .bad fun id off => .ok (.p id (Nat.add off n)) h nx)
    | none => .mk fun _ _ _ => .bad
  | .field t x i => (cX x).bind fun g => (cFld P t i).bind fun f => .mk (k1 g fun v h nx => v.onAgg .bad fun l => okO (f l) h nx)
  | .indexAddr t x i => (cX x).bind fun g => (cX i).bind fun f => (cIdx P t).bind fun ix => .mk (k2 g f fun u v h nx => v.onI .bad fun _ n => okO (ix u n) h nx)
  | .index t x i => (cX x).bind fun g => (cX i).bind fun f => (cIx P t).bind fun ix => .mk (k2 g f fun u v h nx => okO (ix u v) h nx)
  | .extract x i => (cX x).bind fun g => .mk (k1 g fun v h nx => v.onTup .bad fun l => okO (getF l i) h nx)
  | .pick c x y => (cX c).bind fun gc => (cX x).bind fun gx => (cX y).bind fun gy => .mk fun sl h nx => onO (gc sl) .bad fun v => v.onB .bad fun b => onB b (okO (gx sl) h nx) (okO (gy sl) h nx)
  | .nilCheck x => (cX x).bind fun g => .mk (k1 g fun v h nx => v.isPt .bad (.ok v h nx))
  | .unOp op _ x => (cX x).bind fun g => (cUn op).bind fun u => .mk (k1 g fun v h nx => u v h nx)
  | .convert s d x => (cX x).bind fun g => (cConv P s d).bind fun u => .mk (k1 g fun v h nx => u v h nx)
  | .makeInterface t x => (cX x).bind fun g => onB (P.concrete t) (.mk (k1 g fun v h nx => .ok (.ifc t v) h nx)) (.mk fun _ _ _ => .bad)
  | .slice t x lo hi mx => (cX x).bind fun g => (cB lo).bind fun gl => (cB hi).bind fun gh => (cB mx).bind fun gm => (cSlc P t).bind fun s => .mk fun sl h nx => onO (g sl) .bad fun v => onO (gl sl) .bad fun l => onO (gh sl) .bad fun hh => onO (gm sl) .bad fun m => okO (s v l hh m) h nx
  | .makeSlice t l c => (cX l).bind fun g => (cX c).bind fun f => .mk (k2 g f fun u v h nx => evMake P h nx t u v)
  | .range t x => (cX x).bind fun g => .mk (k1 g fun v h nx => evRange P h nx t v)
  | .next x b => (cX x).bind fun g => onB b (.mk (k1 g fun v h nx => nextF h nx v)) (.mk (k1 g fun v h nx => evNext h nx v false))
  | .alloc t => .mk fun _ h nx => evAlloc P h nx t
  | .box t x => (cX x).bind fun g => .mk (k1 g fun v h nx => evBox h nx t v)
  | .typeAssert x _ t ok => (cX x).bind fun g => .mk (k1 g fun v h nx => okO (evTA P t ok v) h nx)
  | .build t ps => (cParts ps.toList).bind fun g => .mk fun sl h nx => onO (g sl) .bad fun l => okO (evBuild P t l) h nx
  | .buildSlice t n ps => (cParts ps.toList).bind fun g => .mk fun sl h nx => onO (g sl) .bad fun l => evRow P h nx t n l
  | .call c => match c.callee with
    | .builtin b => match b, c.argTypes.toList, c.args.toList with
      | .len, [t], [x] => (cX x).bind fun g => (cLen P t).bind fun f => .mk (k1 g fun v h nx => okO (f v) h nx)
      | b, ts, l => (cXs l).bind fun g => .mk fun sl h nx => onO (g sl) .bad fun l => evBuiltin P h nx b ts l
    | _ => .mk fun _ _ _ => .bad
  | op => .mk fun sl h nx => evM P sl h nx op
theorem cM_eq (op : Op) (sl : T AV) (h : T AO) (nx : Nat) : (cM P op).un sl h nx = evM P sl h nx op := by
  cases op <;> try rfl
  case move x => simp only [cM, Hd.bind_eq, Hd.un_mk, k1, cX_eq, evM, evP]; cases evX sl x <;> rfl
  case assign x => simp only [cM, Hd.bind_eq, Hd.un_mk, k1, cX_eq, evM, evP]; cases evX sl x <;> rfl
  case load t x =>
    simp only [cM, Hd.bind_eq, Hd.un_mk, k1, cX_eq, evM, okO_eq, ldF_eq]
    cases evX sl x <;> rfl
  case store t x y =>
    simp only [cM, Hd.bind_eq, Hd.un_mk, k2, cX_eq, evM, cSt_eq]
    cases evX sl x with
    | none => rfl
    | some u => cases evX sl y <;> rfl
  case binOp op t x y s =>
    simp only [cM, Hd.bind_eq, Hd.un_mk, k2, cX_eq, evM, cBin_eq]
    cases evX sl x with
    | none => rfl
    | some u => cases evX sl y <;> rfl
  case fieldAddr t x i =>
    simp only [cM, Hd.bind_eq, evM, evP]
    cases e : fieldOff P t i with
    | none => cases evX sl x with
      | none => rfl
      | some v => cases v <;> rfl
    | some n =>
      simp only [Hd.un_mk, k1, cX_eq]
      cases evX sl x with
      | none => rfl
      | some v => cases v <;> rfl
  case field t x i =>
    simp only [cM, Hd.bind_eq, Hd.un_mk, k1, cX_eq, evM, evP, okO_eq, cFld_eq]
    cases evX sl x with
    | none => rfl
    | some v => cases v <;> rfl
  case indexAddr t x i =>
    simp only [cM, Hd.bind_eq, Hd.un_mk, k2, cX_eq, evM, evP, okO_eq, cIdx_eq]
    cases evX sl x with
    | none => rfl
    | some u => cases evX sl i with
      | none => rfl
      | some v => cases v <;> rfl
  case index t x i =>
    simp only [cM, Hd.bind_eq, Hd.un_mk, k2, cX_eq, evM, evP, okO_eq, cIx_eq]
    cases evX sl x with
    | none => rfl
    | some u => cases evX sl i <;> rfl
  case extract x i =>
    simp only [cM, Hd.bind_eq, Hd.un_mk, k1, cX_eq, evM, evP, okO_eq, getF_eq]
    cases evX sl x with
    | none => rfl
    | some v => cases v <;> rfl
  case pick c x y =>
    simp only [cM, Hd.bind_eq, Hd.un_mk, cX_eq, evM, evP, okO_eq]
    cases evX sl c with
    | none => rfl
    | some v =>
      cases v <;> try rfl
      rename_i b
      cases b <;> rfl
  case nilCheck x =>
    simp only [cM, Hd.bind_eq, Hd.un_mk, k1, cX_eq, evM, evP]
    cases evX sl x with
    | none => rfl
    | some v => cases v <;> rfl
  case unOp op t x =>
    simp only [cM, Hd.bind_eq, Hd.un_mk, k1, cX_eq, evM, evP, cUn_eq]
    cases evX sl x <;> rfl
  case convert s d x =>
    simp only [cM, Hd.bind_eq, Hd.un_mk, k1, cX_eq, evM, cConv_eq, convSlow]
    cases evX sl x <;> rfl
  case makeInterface t x =>
    simp only [cM, Hd.bind_eq, onB_eq, evM, evP]
    cases P.concrete t with
    | false => rfl
    | true =>
      simp only [cond_true, Hd.un_mk, k1, cX_eq]
      cases evX sl x <;> rfl
  case slice t x lo hi mx =>
    simp only [cM, Hd.bind_eq, Hd.un_mk, cX_eq, cB_eq, evM, evP, okO_eq, cSlc_eq]
    cases evX sl x with
    | none => rfl
    | some v =>
      cases evB sl lo with
      | none => rfl
      | some l =>
        cases evB sl hi with
        | none => rfl
        | some hh => cases evB sl mx <;> rfl
  case makeSlice t l c =>
    simp only [cM, Hd.bind_eq, Hd.un_mk, k2, cX_eq, evM]
    cases evX sl l with
    | none => rfl
    | some u => cases evX sl c <;> rfl
  case range t x => simp only [cM, Hd.bind_eq, Hd.un_mk, k1, cX_eq, evM]; cases evX sl x <;> rfl
  case next x b =>
    simp only [cM, Hd.bind_eq, onB_eq, evM]
    cases b with
    | true => simp only [cond_true, Hd.un_mk, k1, cX_eq, nextF_eq]; cases evX sl x <;> rfl
    | false => simp only [cond_false, Hd.un_mk, k1, cX_eq]; cases evX sl x <;> rfl
  case box t x => simp only [cM, Hd.bind_eq, Hd.un_mk, k1, cX_eq, evM]; cases evX sl x <;> rfl
  case typeAssert x xt t ok =>
    simp only [cM, Hd.bind_eq, Hd.un_mk, k1, cX_eq, evM, evP, okO_eq]
    cases evX sl x <;> rfl
  case build t ps =>
    simp only [cM, Hd.bind_eq, Hd.un_mk, cParts_eq, evM, evP, okO_eq]
    cases evParts sl ps.toList <;> rfl
  case buildSlice t n ps =>
    simp only [cM, Hd.bind_eq, Hd.un_mk, cParts_eq, evM]
    cases evParts sl ps.toList <;> rfl
  case call c =>
    simp only [cM, evM]
    cases hc : c.callee with
    | value f => rfl
    | invoke r m => rfl
    | builtin b =>
      simp only
      split
      · rename_i t x h1 h2
        simp only [h1, h2, Hd.bind_eq, Hd.un_mk, k1, cX_eq, evXs, okO_eq, cLen_eq]
        cases evX sl x <;> rfl
      · simp only [Hd.bind_eq, Hd.un_mk, cXs_eq]
        cases evXs sl c.args.toList <;> rfl
end Go.Proofs.YtmhnnfponloihaaDoor
