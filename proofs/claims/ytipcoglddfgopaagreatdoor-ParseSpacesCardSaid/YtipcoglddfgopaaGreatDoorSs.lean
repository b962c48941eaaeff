/- Parts of the proof: Ss. -/
import Derived.Test.YtipcoglddfgopaaGreatDoorP6
set_option maxHeartbeats 4000000
set_option linter.unusedSimpArgs false
set_option linter.unusedVariables false
namespace Go.Proofs.YtipcoglddfgopaaGreatDoor
open Go.RowKit
def kIf : ByteArray := ⟨#[105, 102]⟩
def kWhile : ByteArray := ⟨#[119, 104, 105, 108, 101]⟩
def kReturn : ByteArray := ⟨#[114, 101, 116, 117, 114, 110]⟩
def kPrint : ByteArray := ⟨#[112, 114, 105, 110, 116]⟩
def kAssert : ByteArray := ⟨#[97, 115, 115, 101, 114, 116]⟩
def kThrow : ByteArray := ⟨#[116, 104, 114, 111, 119]⟩
def kTry : ByteArray := ⟨#[116, 114, 121]⟩
def kElse : ByteArray := ⟨#[101, 108, 115, 101]⟩
def kCatch : ByteArray := ⟨#[99, 97, 116, 99, 104]⟩
def kFinally : ByteArray := ⟨#[102, 105, 110, 97, 108, 108, 121]⟩
def kExtends : ByteArray := ⟨#[101, 120, 116, 101, 110, 100, 115]⟩
def kClass : ByteArray := ⟨#[99, 108, 97, 115, 115]⟩
def kStatic : ByteArray := ⟨#[115, 116, 97, 116, 105, 99]⟩
def kVoid : ByteArray := ⟨#[118, 111, 105, 100]⟩
def sEq : ByteArray := ⟨#[61]⟩
def sSemi : ByteArray := ⟨#[59]⟩
def sBra : ByteArray := ⟨#[123]⟩
def sKet : ByteArray := ⟨#[125]⟩
def mkS (k n : Int) (ty nm : ByteArray) (e a b c : List Nd) : Nd := .st k n ty nm (.slice none 0 0) (.slice none 0 0) (.slice none 0 0) (.slice none 0 0) e a b c 0
def ex (s : RS) : List Nd × RS := run (14 * s.len + 9) .expr s
def ar (s : RS) : List Nd × RS := run (14 * s.len + 12) .args s
def finE (s : RS) : List Nd × RS := ([hdE (ex s).1], (ex s).2.need sSemi)
def valE (s : RS) : List Nd × RS := finE (s.need sEq)
def cond (s : RS) : List Nd × RS := ([hdE (ex (s.need sOpen)).1], (ex (s.need sOpen)).2.need sShut)
abbrev Rb := RS → List Nd × RS
def choS (b : Rb) (s : RS) : Nd × RS :=
 if (b (cond s).2).2.sees 0 kElse = true then (mkS 4 0 E0 E0 (cond s).1 (b (cond s).2).1 (b (b (cond s).2).2.skip).1 [], (b (b (cond s).2).2.skip).2)
 else (mkS 4 0 E0 E0 (cond s).1 (b (cond s).2).1 [] [], (b (cond s).2).2)
def whlS (b : Rb) (s : RS) : Nd × RS := (mkS 5 0 E0 E0 (cond s).1 (b (cond s).2).1 [] [], (b (cond s).2).2)
def resS (s : RS) : Nd × RS := if s.sees 0 sSemi = true then (mkS 6 0 E0 E0 [] [] [] [], s.skip) else (mkS 6 0 E0 E0 (finE s).1 [] [] [], (finE s).2)
def at1 (b : Rb) (s : RS) : RS := ((b s).2.need kCatch).need sOpen
def at2 (b : Rb) (s : RS) : RS := (at1 b s).class
def at3 (b : Rb) (s : RS) : RS := (at2 b s).name.need sShut
def attS (b : Rb) (s : RS) : Nd × RS :=
 if (b (at3 b s)).2.sees 0 kFinally = true then (mkS 10 0 (at1 b s).classV (at2 b s).nameV [] (b s).1 (b (at3 b s)).1 (b (b (at3 b s)).2.skip).1, (b (b (at3 b s)).2.skip).2)
 else (mkS 10 0 (at1 b s).classV (at2 b s).nameV [] (b s).1 (b (at3 b s)).1 [], (b (at3 b s)).2)
def supS (s : RS) : Nd × RS := (mkS 11 0 E0 E0 (ar s.skip).1 [] [] [], (ar s.skip).2.need sSemi)
def plaS (s : RS) : Nd × RS :=
 if (ex s).2.sees 0 sEq = true then (mkS 2 0 E0 E0 (hdE (ex s).1 :: (finE (ex s).2.skip).1) [] [] [], (finE (ex s).2.skip).2)
 else (mkS 3 0 E0 E0 [hdE (ex s).1] [] [] [], (ex s).2.need sSemi)
def varS (s : RS) : Nd × RS := (mkS 1 0 s.typV s.typ.nameV (valE s.typ.name).1 [] [] [], (valE s.typ.name).2)
def RS.varB (s : RS) : Bool := s.sees 0 tInt || s.sees 0 tBool || s.sees 0 tStr || ((clP s.ws[0]?).isSome && (nmP s.ws[1]?).isSome)
def stS (b : Rb) (s : RS) : Nd × RS :=
 if s.varB = true then varS s
 else if s.sees 0 kIf = true then choS b s.skip
 else if s.sees 0 kWhile = true then whlS b s.skip
 else if s.sees 0 kReturn = true then resS s.skip
 else if s.sees 0 kPrint = true then (mkS 7 0 E0 E0 (finE s.skip).1 [] [] [], (finE s.skip).2)
 else if s.sees 0 kAssert = true then (mkS 8 (s.skip.numR 9999) E0 E0 (finE (s.skip.num 9999)).1 [] [] [], (finE (s.skip.num 9999)).2)
 else if s.sees 0 kThrow = true then (mkS 9 0 E0 E0 (finE s.skip).1 [] [] [], (finE s.skip).2)
 else if s.sees 0 kTry = true then attS b s.skip
 else if s.sees 0 sSuper = true then (if s.sees 1 sOpen = true then supS s else plaS s)
 else plaS s
def kindN : Nd → Int
 | .ex k _ _ _ _ _ _ _ _ => k
 | _ => 0
def leftK (k : Int) : Bool := k == 6 || k == 7 || k == 8 || k == 9
def doesK (k : Int) : Bool := k == 10 || k == 11 || k == 12 || k == 13 || k == 14
def fitsS (x : Nd) (first : Bool) : Bool := match x with
 | .st k _ _ _ _ _ _ _ e _ _ _ _ => if k = 11 then first else if k = 2 then leftK (kindN (hdE e)) else if k = 3 then doesK (kindN (hdE e)) else true
 | _ => true
def RS.lateN (s : RS) (a : Int) : RS := if s.lc = 0 then { s with lc := 3, la := a } else s
inductive Ms where
 | body (c : Bool) | loop (c : Bool) (l : List Nd)
def runS : Nat → Ms → RS → List Nd × RS
 | 0, _, s => ([], s)
 | n + 1, .body c, s => ((runS n (.loop c []) (s.enter sBra)).1, (runS n (.loop c []) (s.enter sBra)).2.leave sKet)
 | n + 1, .loop c l, s =>
   if s.until sKet = true then
     let r := stS (runS n (.body false)) s
     runS n (.loop c (l ++ [r.1])) (if fitsS r.1 (c && l.isEmpty) = true then r.2 else r.2.lateN s.at)
   else (l, s)
def Ms.rank : Ms → Nat
 | .body _ => 3 | .loop .. => 2
def enoughS (n : Nat) (m : Ms) (s : RS) : Prop := 4 * s.len + m.rank ≤ n
theorem len_ex (s : RS) : (ex s).2.len ≤ s.len := run_len _ _ _
theorem len_ar (s : RS) : (ar s).2.len ≤ s.len := run_len _ _ _
theorem len_finE (s : RS) : (finE s).2.len ≤ s.len - 1 := by
 have h1 := len_ex s
 have h2 := len_need (ex s).2 sSemi
 show ((ex s).2.need sSemi).len ≤ _
 omega
theorem len_valE (s : RS) : (valE s).2.len ≤ s.len - 1 := by
 have h1 := len_finE (s.need sEq)
 have h2 := len_need s sEq
 show (finE (s.need sEq)).2.len ≤ _
 omega
theorem len_cond (s : RS) : (cond s).2.len ≤ s.len - 1 := by
 have h1 := len_ex (s.need sOpen)
 have h2 := len_need s sOpen
 have h3 := len_need (ex (s.need sOpen)).2 sShut
 show ((ex (s.need sOpen)).2.need sShut).len ≤ _
 omega
theorem len_typ (s : RS) : s.typ.len ≤ s.len - 1 := by
 have h1 := len_skip s
 have h2 := len_class s
 unfold RS.typ
 repeat' split
 all_goals assumption
section
variable {b : Rb} (hb : ∀ s, (b s).2.len ≤ s.len - 1)
include hb
theorem len_choS (s : RS) : (choS b s).2.len ≤ s.len - 1 := by
 have h1 := len_cond s
 have h2 := hb (cond s).2
 have h3 := len_skip (b (cond s).2).2
 have h4 := hb (b (cond s).2).2.skip
 unfold choS
 split
 · show (b (b (cond s).2).2.skip).2.len ≤ _; omega
 · show (b (cond s).2).2.len ≤ _; omega
theorem len_whlS (s : RS) : (whlS b s).2.len ≤ s.len - 1 := by
 have h1 := len_cond s
 have h2 := hb (cond s).2
 show (b (cond s).2).2.len ≤ _; omega
theorem len_at3 (s : RS) : (at3 b s).len ≤ s.len - 1 := by
 have h1 := hb s
 have h2 := len_need (b s).2 kCatch
 have h3 := len_need ((b s).2.need kCatch) sOpen
 have h4 := len_class (at1 b s)
 have h5 := len_name (at2 b s)
 have h6 := len_need (at2 b s).name sShut
 have e1 : (at1 b s).len = (((b s).2.need kCatch).need sOpen).len := rfl
 have e2 : (at2 b s).len = (at1 b s).class.len := rfl
 show ((at2 b s).name.need sShut).len ≤ _
 omega
theorem len_attS (s : RS) : (attS b s).2.len ≤ s.len - 1 := by
 have h0 := len_at3 hb s
 have h2 := hb (at3 b s)
 have h3 := len_skip (b (at3 b s)).2
 have h4 := hb (b (at3 b s)).2.skip
 unfold attS
 split
 · show (b (b (at3 b s)).2.skip).2.len ≤ _; omega
 · show (b (at3 b s)).2.len ≤ _; omega
theorem len_stS (s : RS) : (stS b s).2.len ≤ s.len - 1 := by
 have k := len_skip s
 have h1 := len_valE s.typ.name
 have h2 := len_typ s
 have h3 := len_name s.typ
 have h4 := len_choS hb s.skip
 have h5 := len_whlS hb s.skip
 have h6 := len_finE s.skip
 have h7 := len_num s.skip 9999
 have h8 := len_finE (s.skip.num 9999)
 have h9 := len_attS hb s.skip
 have h10 := len_ar s.skip
 have h11 := len_need (ar s.skip).2 sSemi
 have h12 := len_ex s
 have h13 := len_need (ex s).2 sSemi
 have h14 := len_skip (ex s).2
 have h15 := len_finE (ex s).2.skip
 have h16 := len_skip s.skip
 have e1 : (varS s).2.len = (valE s.typ.name).2.len := rfl
 have e2 : (supS s).2.len = ((ar s.skip).2.need sSemi).len := rfl
 have e3 : (resS s.skip).2.len ≤ s.len - 1 := by
   unfold resS; split
   · show s.skip.skip.len ≤ _; omega
   · show (finE s.skip).2.len ≤ _; omega
 have e4 : (plaS s).2.len ≤ s.len - 1 := by
   unfold plaS; split
   · show (finE (ex s).2.skip).2.len ≤ _; omega
   · show ((ex s).2.need sSemi).len ≤ _; omega
 unfold stS
 repeat' split
 all_goals first | exact e4 | exact e3 | omega | (show (finE s.skip).2.len ≤ _; omega) | (show (finE (s.skip.num 9999)).2.len ≤ _; omega)
end
theorem len_any {b : Rb} (hb : ∀ s, (b s).2.len ≤ s.len) (s : RS) : (stS b s).2.len ≤ s.len := by
 have k := len_skip s
 have h1 := len_valE s.typ.name
 have h2 := len_typ s
 have h3 := len_name s.typ
 have c1 := len_cond s.skip
 have c2 := hb (cond s.skip).2
 have c3 := len_skip (b (cond s.skip).2).2
 have c4 := hb (b (cond s.skip).2).2.skip
 have h4 : (choS b s.skip).2.len ≤ s.len := by
   unfold choS; split
   · show (b (b (cond s.skip).2).2.skip).2.len ≤ _; omega
   · show (b (cond s.skip).2).2.len ≤ _; omega
 have h5 : (whlS b s.skip).2.len ≤ s.len := by show (b (cond s.skip).2).2.len ≤ _; omega
 have h6 := len_finE s.skip
 have h7 := len_num s.skip 9999
 have h8 := len_finE (s.skip.num 9999)
 have d1 := hb s.skip
 have d2 := len_need (b s.skip).2 kCatch
 have d3 := len_need ((b s.skip).2.need kCatch) sOpen
 have d4 := len_class (at1 b s.skip)
 have d5 := len_name (at2 b s.skip)
 have d6 := len_need (at2 b s.skip).name sShut
 have e1 : (at1 b s.skip).len = (((b s.skip).2.need kCatch).need sOpen).len := rfl
 have e2 : (at2 b s.skip).len = (at1 b s.skip).class.len := rfl
 have e3 : (at3 b s.skip).len = ((at2 b s.skip).name.need sShut).len := rfl
 have d7 := hb (at3 b s.skip)
 have d8 := len_skip (b (at3 b s.skip)).2
 have d9 := hb (b (at3 b s.skip)).2.skip
 have h9 : (attS b s.skip).2.len ≤ s.len := by
   unfold attS; split
   · show (b (b (at3 b s.skip)).2.skip).2.len ≤ _; omega
   · show (b (at3 b s.skip)).2.len ≤ _; omega
 have h10 := len_ar s.skip
 have h11 := len_need (ar s.skip).2 sSemi
 have h12 := len_ex s
 have h13 := len_need (ex s).2 sSemi
 have h14 := len_skip (ex s).2
 have h15 := len_finE (ex s).2.skip
 have h16 := len_skip s.skip
 have f1 : (varS s).2.len = (valE s.typ.name).2.len := rfl
 have f2 : (supS s).2.len = ((ar s.skip).2.need sSemi).len := rfl
 have f3 : (resS s.skip).2.len ≤ s.len := by
   unfold resS; split
   · show s.skip.skip.len ≤ _; omega
   · show (finE s.skip).2.len ≤ _; omega
 have f4 : (plaS s).2.len ≤ s.len := by
   unfold plaS; split
   · show (finE (ex s).2.skip).2.len ≤ _; omega
   · show ((ex s).2.need sSemi).len ≤ _; omega
 unfold stS
 repeat' split
 all_goals first | exact f4 | exact f3 | omega | (show (finE s.skip).2.len ≤ _; omega) | (show (finE (s.skip.num 9999)).2.len ≤ _; omega)
theorem len_late (s : RS) (a : Int) : (s.lateN a).len = s.len := by unfold RS.lateN; split <;> rfl
theorem runS_len : ∀ (n : Nat) (m : Ms) (s : RS), (runS n m s).2.len ≤ s.len ∧ ∀ c, m = .body c → 1 ≤ n → (runS n m s).2.len ≤ s.len - 1 := by
 intro n
 induction n with
 | zero => intro m s; exact ⟨Nat.le_refl _, fun _ _ h => by omega⟩
 | succ n ih =>
   intro m s
   cases m with
   | body c =>
     have h1 := len_enter s sBra
     have h2 := (ih (.loop c []) (s.enter sBra)).1
     have h3 := len_leave (runS n (.loop c []) (s.enter sBra)).2 sKet
     have : (runS (n + 1) (.body c) s).2.len ≤ s.len - 1 := by show ((runS n (.loop c []) (s.enter sBra)).2.leave sKet).len ≤ _; omega
     exact ⟨by omega, fun _ _ _ => this⟩
   | loop c l =>
     refine ⟨?_, fun _ h => by cases h⟩
     simp only [runS]
     split
     · have h0 := len_any (b := runS n (.body false)) (fun s => (ih _ s).1) s
       refine Nat.le_trans (ih _ _).1 ?_
       split
       · exact h0
       · rw [len_late]; exact h0
     · exact Nat.le_refl _
theorem len_body (n : Nat) (c : Bool) (s : RS) (hn : 1 ≤ n) : (runS n (.body c) s).2.len ≤ s.len - 1 := (runS_len n _ s).2 c rfl hn
def bd (c : Bool) (s : RS) : List Nd × RS := runS (4 * s.len + 3) (.body c) s
abbrev Pm := ByteArray × ByteArray
def parV (s : RS) : Pm × RS := ((s.typV, s.typ.nameV), s.typ.name)
def moreP : Nat → List Pm → RS → List Pm × RS
 | 0, l, s => (l, s)
 | n + 1, l, s => if s.sees 0 sComma = true then moreP n (l ++ [(parV s.skip).1]) (parV s.skip).2 else (l, s)
def lstP (s : RS) : List Pm × RS := if s.sees 0 sShut = true then ([], s) else moreP (s.len + 1) [(parV s).1] (parV s).2
def parP (s : RS) : List Pm × RS := ((lstP (s.need sOpen)).1, (lstP (s.need sOpen)).2.need sShut)
def mkM (st ct : Bool) (ty nm : ByteArray) (ps : List Pm) (l : List Nd) : Nd := .mt st ct ty nm (.slice none 0 0) ps (.slice none 0 0) l
def mkF (st : Bool) (ty nm : ByteArray) (l : List Nd) : Nd := .fd st ty nm (.slice none 0 0) l
def metM (st : Bool) (ty nm : ByteArray) (s : RS) : Nd × RS := (mkM st false ty nm (parP s).1 (bd false (parP s).2).1, (bd false (parP s).2).2)
def fldM (st : Bool) (ty nm : ByteArray) (s : RS) : Nd × RS := if s.sees 0 sEq = true then (mkF st ty nm [hdE (ex s.skip).1], (ex s.skip).2.need sSemi) else (mkF st ty nm [], s.need sSemi)
def ctoM (s : RS) : Nd × RS := (mkM false true E0 E0 (parP s.skip).1 (bd true (parP s.skip).2).1, (bd true (parP s.skip).2).2)
def RS.ctorB (s : RS) (own : ByteArray) : Bool := (match clP s.ws[0]? with | some t => t.toList == own.toList | none => false) && s.sees 1 sOpen
def memM (own : ByteArray) (s : RS) : Nd × RS :=
 if s.sees 0 kStatic = false ∧ (s.take kStatic).ctorB own = true then ctoM (s.take kStatic)
 else if (s.take kStatic).sees 0 kVoid = true then metM (s.sees 0 kStatic) kVoid (s.take kStatic).skip.nameV (s.take kStatic).skip.name
 else if (s.take kStatic).typ.name.sees 0 sOpen = true then metM (s.sees 0 kStatic) (s.take kStatic).typV (s.take kStatic).typ.nameV (s.take kStatic).typ.name
 else fldM (s.sees 0 kStatic) (s.take kStatic).typV (s.take kStatic).typ.nameV (s.take kStatic).typ.name
def isF : Nd → Bool
 | .fd .. => true
 | _ => false
def loopC : Nat → ByteArray → List Nd → List Nd → RS → (List Nd × List Nd) × RS
 | 0, _, f, g, s => ((f, g), s)
 | n + 1, own, f, g, s =>
   if s.until sKet = true then
     if isF (memM own s).1 = true then loopC n own (f ++ [(memM own s).1]) g (memM own s).2 else loopC n own f (g ++ [(memM own s).1]) (memM own s).2
   else ((f, g), s)
def kl1 (s : RS) : RS := (s.need kClass).class
def kl2 (s : RS) : RS := if (kl1 s).sees 0 kExtends = true then (kl1 s).skip.class else kl1 s
def clSup (s : RS) : ByteArray := if (kl1 s).sees 0 kExtends = true then (kl1 s).skip.classV else E0
def kl3 (s : RS) : RS := (kl2 s).need sBra
def clB (s : RS) : (List Nd × List Nd) × RS := loopC ((kl3 s).len + 1) (s.need kClass).classV [] [] (kl3 s)
def clsC (s : RS) : Nd × RS := (.cl (s.need kClass).classV (clSup s) (.slice none 0 0) (.slice none 0 0) (clB s).1.1 (clB s).1.2, (clB s).2.need sKet)
def loopG : Nat → List Nd → RS → List Nd × RS
 | 0, l, s => (l, s)
 | n + 1, l, s => if s.ws.isEmpty = true then (l, s) else loopG n (l ++ [(clsC s).1]) (clsC s).2
def prg (s : RS) : List Nd × RS := loopG (s.len + 1) [] s
theorem len_bd (c : Bool) (s : RS) : (bd c s).2.len ≤ s.len - 1 := len_body _ _ _ (by omega)
theorem len_parV (s : RS) : (parV s).2.len ≤ s.len - 1 := by
 have h1 := len_typ s
 have h2 := len_name s.typ
 show s.typ.name.len ≤ _; omega
theorem len_moreP : ∀ (n : Nat) (l : List Pm) (s : RS), (moreP n l s).2.len ≤ s.len := by
 intro n
 induction n with
 | zero => intro l s; exact Nat.le_refl _
 | succ n ih =>
   intro l s
   simp only [moreP]
   split
   · have h1 := len_skip s
     have h2 := len_parV s.skip
     exact Nat.le_trans (ih _ _) (by omega)
   · exact Nat.le_refl _
theorem len_lstP (s : RS) : (lstP s).2.len ≤ s.len := by
 unfold lstP; split
 · exact Nat.le_refl _
 · have h2 := len_parV s
   exact Nat.le_trans (len_moreP _ _ _) (by omega)
theorem len_parP (s : RS) : (parP s).2.len ≤ s.len - 1 := by
 have h1 := len_need s sOpen
 have h2 := len_lstP (s.need sOpen)
 have h3 := len_need (lstP (s.need sOpen)).2 sShut
 show ((lstP (s.need sOpen)).2.need sShut).len ≤ _; omega
theorem len_metM (st : Bool) (ty nm : ByteArray) (s : RS) : (metM st ty nm s).2.len ≤ s.len - 1 := by
 have h1 := len_parP s
 have h2 := len_bd false (parP s).2
 show (bd false (parP s).2).2.len ≤ _; omega
theorem len_fldM (st : Bool) (ty nm : ByteArray) (s : RS) : (fldM st ty nm s).2.len ≤ s.len - 1 := by
 have h1 := len_skip s
 have h2 := len_ex s.skip
 have h3 := len_need (ex s.skip).2 sSemi
 have h4 := len_need s sSemi
 unfold fldM; split
 · show ((ex s.skip).2.need sSemi).len ≤ _; omega
 · show (s.need sSemi).len ≤ _; omega
theorem len_ctoM (s : RS) : (ctoM s).2.len ≤ s.len - 1 := by
 have h1 := len_skip s
 have h2 := len_parP s.skip
 have h3 := len_bd true (parP s.skip).2
 show (bd true (parP s.skip).2).2.len ≤ _; omega
theorem len_take (s : RS) (p : ByteArray) : (s.take p).len ≤ s.len := by
 have := len_skip s
 unfold RS.take; split <;> omega
theorem len_memM (own : ByteArray) (s : RS) : (memM own s).2.len ≤ s.len - 1 := by
 have h0 := len_take s kStatic
 have h1 := len_ctoM (s.take kStatic)
 have h2 := len_skip (s.take kStatic)
 have h3 := len_name (s.take kStatic).skip
 have h4 := len_metM (s.sees 0 kStatic) kVoid (s.take kStatic).skip.nameV (s.take kStatic).skip.name
 have h5 := len_typ (s.take kStatic)
 have h6 := len_name (s.take kStatic).typ
 have h7 := len_metM (s.sees 0 kStatic) (s.take kStatic).typV (s.take kStatic).typ.nameV (s.take kStatic).typ.name
 have h8 := len_fldM (s.sees 0 kStatic) (s.take kStatic).typV (s.take kStatic).typ.nameV (s.take kStatic).typ.name
 unfold memM
 repeat' split
 all_goals omega
theorem len_loopC : ∀ (n : Nat) (own : ByteArray) (f g : List Nd) (s : RS), (loopC n own f g s).2.len ≤ s.len := by
 intro n
 induction n with
 | zero => intro own f g s; exact Nat.le_refl _
 | succ n ih =>
   intro own f g s
   have := len_memM own s
   simp only [loopC]
   repeat' split
   · exact Nat.le_trans (ih _ _ _ _) (by omega)
   · exact Nat.le_trans (ih _ _ _ _) (by omega)
   · exact Nat.le_refl _
theorem len_kl3 (s : RS) : (kl3 s).len ≤ s.len - 1 := by
 have h1 := len_need s kClass
 have h2 := len_class (s.need kClass)
 have h3 := len_skip (kl1 s)
 have h4 := len_class (kl1 s).skip
 have h5 := len_need (kl2 s) sBra
 have e1 : (kl1 s).len = (s.need kClass).class.len := rfl
 have e2 : (kl2 s).len ≤ (kl1 s).len := by unfold kl2; split <;> omega
 show ((kl2 s).need sBra).len ≤ _; omega
theorem len_clsC (s : RS) : (clsC s).2.len ≤ s.len - 1 := by
 have h1 := len_kl3 s
 have h2 : (clB s).2.len ≤ (kl3 s).len := len_loopC _ _ _ _ _
 have h3 := len_need (clB s).2 sKet
 show ((clB s).2.need sKet).len ≤ _; omega
end Go.Proofs.YtipcoglddfgopaaGreatDoor
