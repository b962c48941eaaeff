/- Parts of the proof: Ss, Own, StA, Sz, Laid, LaidW. -/
import Derived.Test.YtnbfajmdfkgebaaGreatDoorP9
import Derived.Test.YtnbfajmdfkgebaaGreatDoorP31
import Derived.Test.YtnbfajmdfkgebaaGreatDoorRows
import Derived.ChangeSame
import Derived.ChangeVars
import Derived.JoinedOf
import Derived.RowKit
import Derived.RowKitTokens
import Derived.LaidLaws
import Derived.LaidHandle
import Derived.Stop.Joined
set_option maxHeartbeats 4000000
set_option maxRecDepth 100000
namespace Go.Proofs.YtnbfajmdfkgebaaGreatDoor
set_option linter.unusedSimpArgs false
set_option linter.unusedVariables false
section
open Go.RowKit
def kIf : ByteArray := ⟨#[105, 102]⟩
def kWhile : ByteArray := ⟨#[119, 104, 105, 108, 101]⟩
def kReturn : ByteArray := ⟨#[114, 101, 116, 117, 114, 110]⟩
def kPrint : ByteArray := ⟨#[112, 114, 105, 110, 116]⟩
def kAssert : ByteArray := ⟨#[97, 115, 115, 101, 114, 116]⟩
def kThrow : ByteArray := ⟨#[116, 104, 114, 111, 119]⟩
def kTry : ByteArray := ⟨#[116, 114, 121]⟩
def kElse : ByteArray := ⟨#[101, 108, 115, 101]⟩
def kCatch : ByteArray := ⟨#[99, 97, 116, 99, 104]⟩
def kFinally : ByteArray := ⟨#[102, 105, 110, 97, 108, 108, 121]⟩
def kExtends : ByteArray := ⟨#[101, 120, 116, 101, 110, 100, 115]⟩
def kClass : ByteArray := ⟨#[99, 108, 97, 115, 115]⟩
def kStatic : ByteArray := ⟨#[115, 116, 97, 116, 105, 99]⟩
def kVoid : ByteArray := ⟨#[118, 111, 105, 100]⟩
def sEq : ByteArray := ⟨#[61]⟩
def sSemi : ByteArray := ⟨#[59]⟩
def sBra : ByteArray := ⟨#[123]⟩
def sKet : ByteArray := ⟨#[125]⟩
def mkS (k n : Int) (ty nm : ByteArray) (e a b c : List Nd) : Nd := .st k n ty nm (.slice none 0 0) (.slice none 0 0) (.slice none 0 0) (.slice none 0 0) e a b c 0
def ex (s : RS) : List Nd × RS := run (14 * s.len + 9) .expr s
def ar (s : RS) : List Nd × RS := run (14 * s.len + 12) .args s
def finE (s : RS) : List Nd × RS := ([hdE (ex s).1], (ex s).2.need sSemi)
def valE (s : RS) : List Nd × RS := finE (s.need sEq)
def cond (s : RS) : List Nd × RS := ([hdE (ex (s.need sOpen)).1], (ex (s.need sOpen)).2.need sShut)
abbrev Rb := RS → List Nd × RS
def choS (b : Rb) (s : RS) : Nd × RS :=
 if (b (cond s).2).2.sees 0 kElse = true then (mkS 4 0 E0 E0 (cond s).1 (b (cond s).2).1 (b (b (cond s).2).2.skip).1 [], (b (b (cond s).2).2.skip).2)
 else (mkS 4 0 E0 E0 (cond s).1 (b (cond s).2).1 [] [], (b (cond s).2).2)
def whlS (b : Rb) (s : RS) : Nd × RS := (mkS 5 0 E0 E0 (cond s).1 (b (cond s).2).1 [] [], (b (cond s).2).2)
def resS (s : RS) : Nd × RS := if s.sees 0 sSemi = true then (mkS 6 0 E0 E0 [] [] [] [], s.skip) else (mkS 6 0 E0 E0 (finE s).1 [] [] [], (finE s).2)
def at1 (b : Rb) (s : RS) : RS := ((b s).2.need kCatch).need sOpen
def at2 (b : Rb) (s : RS) : RS := (at1 b s).class
def at3 (b : Rb) (s : RS) : RS := (at2 b s).name.need sShut
def attS (b : Rb) (s : RS) : Nd × RS :=
 if (b (at3 b s)).2.sees 0 kFinally = true then (mkS 10 0 (at1 b s).classV (at2 b s).nameV [] (b s).1 (b (at3 b s)).1 (b (b (at3 b s)).2.skip).1, (b (b (at3 b s)).2.skip).2)
 else (mkS 10 0 (at1 b s).classV (at2 b s).nameV [] (b s).1 (b (at3 b s)).1 [], (b (at3 b s)).2)
def supS (s : RS) : Nd × RS := (mkS 11 0 E0 E0 (ar s.skip).1 [] [] [], (ar s.skip).2.need sSemi)
def plaS (s : RS) : Nd × RS :=
 if (ex s).2.sees 0 sEq = true then (mkS 2 0 E0 E0 (hdE (ex s).1 :: (finE (ex s).2.skip).1) [] [] [], (finE (ex s).2.skip).2)
 else (mkS 3 0 E0 E0 [hdE (ex s).1] [] [] [], (ex s).2.need sSemi)
def varS (s : RS) : Nd × RS := (mkS 1 0 s.typV s.typ.nameV (valE s.typ.name).1 [] [] [], (valE s.typ.name).2)
def RS.varB (s : RS) : Bool := s.sees 0 tInt || s.sees 0 tBool || s.sees 0 tStr || ((clP s.ws[0]?).isSome && (nmP s.ws[1]?).isSome)
def stS (b : Rb) (s : RS) : Nd × RS :=
 if s.varB = true then varS s
 else if s.sees 0 kIf = true then choS b s.skip
 else if s.sees 0 kWhile = true then whlS b s.skip
 else if s.sees 0 kReturn = true then resS s.skip
 else if s.sees 0 kPrint = true then (mkS 7 0 E0 E0 (finE s.skip).1 [] [] [], (finE s.skip).2)
 else if s.sees 0 kAssert = true then (mkS 8 (s.skip.numR 9999) E0 E0 (finE (s.skip.num 9999)).1 [] [] [], (finE (s.skip.num 9999)).2)
 else if s.sees 0 kThrow = true then (mkS 9 0 E0 E0 (finE s.skip).1 [] [] [], (finE s.skip).2)
 else if s.sees 0 kTry = true then attS b s.skip
 else if s.sees 0 sSuper = true then (if s.sees 1 sOpen = true then supS s else plaS s)
 else plaS s
def kindN : Nd → Int
 | .ex k _ _ _ _ _ _ _ _ => k
 | _ => 0
def leftK (k : Int) : Bool := k == 6 || k == 7 || k == 8 || k == 9
def doesK (k : Int) : Bool := k == 10 || k == 11 || k == 12 || k == 13 || k == 14
def fitsS (x : Nd) (first : Bool) : Bool := match x with
 | .st k _ _ _ _ _ _ _ e _ _ _ _ => if k = 11 then first else if k = 2 then leftK (kindN (hdE e)) else if k = 3 then doesK (kindN (hdE e)) else true
 | _ => true
def RS.lateN (s : RS) (a : Int) : RS := if s.lc = 0 then { s with lc := 3, la := a } else s
inductive Ms where
 | body (c : Bool) | loop (c : Bool) (l : List Nd)
def runS : Nat → Ms → RS → List Nd × RS
 | 0, _, s => ([], s)
 | n + 1, .body c, s => ((runS n (.loop c []) (s.enter sBra)).1, (runS n (.loop c []) (s.enter sBra)).2.leave sKet)
 | n + 1, .loop c l, s =>
   if s.until sKet = true then
     let r := stS (runS n (.body false)) s
     runS n (.loop c (l ++ [r.1])) (if fitsS r.1 (c && l.isEmpty) = true then r.2 else r.2.lateN s.at)
   else (l, s)
def Ms.rank : Ms → Nat
 | .body _ => 3 | .loop .. => 2
def enoughS (n : Nat) (m : Ms) (s : RS) : Prop := 4 * s.len + m.rank ≤ n
theorem len_ex (s : RS) : (ex s).2.len ≤ s.len := run_len _ _ _
theorem len_ar (s : RS) : (ar s).2.len ≤ s.len := run_len _ _ _
theorem len_finE (s : RS) : (finE s).2.len ≤ s.len - 1 := by
 have h1 := len_ex s
 have h2 := len_need (ex s).2 sSemi
 show ((ex s).2.need sSemi).len ≤ _
 omega
theorem len_valE (s : RS) : (valE s).2.len ≤ s.len - 1 := by
 have h1 := len_finE (s.need sEq)
 have h2 := len_need s sEq
 show (finE (s.need sEq)).2.len ≤ _
 omega
theorem len_cond (s : RS) : (cond s).2.len ≤ s.len - 1 := by
 have h1 := len_ex (s.need sOpen)
 have h2 := len_need s sOpen
 have h3 := len_need (ex (s.need sOpen)).2 sShut
 show ((ex (s.need sOpen)).2.need sShut).len ≤ _
 omega
theorem len_typ (s : RS) : s.typ.len ≤ s.len - 1 := by
 have h1 := len_skip s
 have h2 := len_class s
 unfold RS.typ
 repeat' split
 all_goals assumption
section
variable {b : Rb} (hb : ∀ s, (b s).2.len ≤ s.len - 1)
include hb
theorem len_choS (s : RS) : (choS b s).2.len ≤ s.len - 1 := by
 have h1 := len_cond s
 have h2 := hb (cond s).2
 have h3 := len_skip (b (cond s).2).2
 have h4 := hb (b (cond s).2).2.skip
 unfold choS
 split
 · show (b (b (cond s).2).2.skip).2.len ≤ _; omega
 · show (b (cond s).2).2.len ≤ _; omega
theorem len_whlS (s : RS) : (whlS b s).2.len ≤ s.len - 1 := by
 have h1 := len_cond s
 have h2 := hb (cond s).2
 show (b (cond s).2).2.len ≤ _; omega
theorem len_at3 (s : RS) : (at3 b s).len ≤ s.len - 1 := by
 have h1 := hb s
 have h2 := len_need (b s).2 kCatch
 have h3 := len_need ((b s).2.need kCatch) sOpen
 have h4 := len_class (at1 b s)
 have h5 := len_name (at2 b s)
 have h6 := len_need (at2 b s).name sShut
 have e1 : (at1 b s).len = (((b s).2.need kCatch).need sOpen).len := rfl
 have e2 : (at2 b s).len = (at1 b s).class.len := rfl
 show ((at2 b s).name.need sShut).len ≤ _
 omega
theorem len_attS (s : RS) : (attS b s).2.len ≤ s.len - 1 := by
 have h0 := len_at3 hb s
 have h2 := hb (at3 b s)
 have h3 := len_skip (b (at3 b s)).2
 have h4 := hb (b (at3 b s)).2.skip
 unfold attS
 split
 · show (b (b (at3 b s)).2.skip).2.len ≤ _; omega
 · show (b (at3 b s)).2.len ≤ _; omega
theorem len_stS (s : RS) : (stS b s).2.len ≤ s.len - 1 := by
 have k := len_skip s
 have h1 := len_valE s.typ.name
 have h2 := len_typ s
 have h3 := len_name s.typ
 have h4 := len_choS hb s.skip
 have h5 := len_whlS hb s.skip
 have h6 := len_finE s.skip
 have h7 := len_num s.skip 9999
 have h8 := len_finE (s.skip.num 9999)
 have h9 := len_attS hb s.skip
 have h10 := len_ar s.skip
 have h11 := len_need (ar s.skip).2 sSemi
 have h12 := len_ex s
 have h13 := len_need (ex s).2 sSemi
 have h14 := len_skip (ex s).2
 have h15 := len_finE (ex s).2.skip
 have h16 := len_skip s.skip
 have e1 : (varS s).2.len = (valE s.typ.name).2.len := rfl
 have e2 : (supS s).2.len = ((ar s.skip).2.need sSemi).len := rfl
 have e3 : (resS s.skip).2.len ≤ s.len - 1 := by
   unfold resS; split
   · show s.skip.skip.len ≤ _; omega
   · show (finE s.skip).2.len ≤ _; omega
 have e4 : (plaS s).2.len ≤ s.len - 1 := by
   unfold plaS; split
   · show (finE (ex s).2.skip).2.len ≤ _; omega
   · show ((ex s).2.need sSemi).len ≤ _; omega
 unfold stS
 repeat' split
 all_goals first | exact e4 | exact e3 | omega | (show (finE s.skip).2.len ≤ _; omega) | (show (finE (s.skip.num 9999)).2.len ≤ _; omega)
end
theorem len_any {b : Rb} (hb : ∀ s, (b s).2.len ≤ s.len) (s : RS) : (stS b s).2.len ≤ s.len := by
 have k := len_skip s
 have h1 := len_valE s.typ.name
 have h2 := len_typ s
 have h3 := len_name s.typ
 have c1 := len_cond s.skip
 have c2 := hb (cond s.skip).2
 have c3 := len_skip (b (cond s.skip).2).2
 have c4 := hb (b (cond s.skip).2).2.skip
 have h4 : (choS b s.skip).2.len ≤ s.len := by
   unfold choS; split
   · show (b (b (cond s.skip).2).2.skip).2.len ≤ _; omega
   · show (b (cond s.skip).2).2.len ≤ _; omega
 have h5 : (whlS b s.skip).2.len ≤ s.len := by show (b (cond s.skip).2).2.len ≤ _; omega
 have h6 := len_finE s.skip
 have h7 := len_num s.skip 9999
 have h8 := len_finE (s.skip.num 9999)
 have d1 := hb s.skip
 have d2 := len_need (b s.skip).2 kCatch
 have d3 := len_need ((b s.skip).2.need kCatch) sOpen
 have d4 := len_class (at1 b s.skip)
 have d5 := len_name (at2 b s.skip)
 have d6 := len_need (at2 b s.skip).name sShut
 have e1 : (at1 b s.skip).len = (((b s.skip).2.need kCatch).need sOpen).len := rfl
 have e2 : (at2 b s.skip).len = (at1 b s.skip).class.len := rfl
 have e3 : (at3 b s.skip).len = ((at2 b s.skip).name.need sShut).len := rfl
 have d7 := hb (at3 b s.skip)
 have d8 := len_skip (b (at3 b s.skip)).2
 have d9 := hb (b (at3 b s.skip)).2.skip
 have h9 : (attS b s.skip).2.len ≤ s.len := by
   unfold attS; split
   · show (b (b (at3 b s.skip)).2.skip).2.len ≤ _; omega
   · show (b (at3 b s.skip)).2.len ≤ _; omega
 have h10 := len_ar s.skip
 have h11 := len_need (ar s.skip).2 sSemi
 have h12 := len_ex s
 have h13 := len_need (ex s).2 sSemi
 have h14 := len_skip (ex s).2
 have h15 := len_finE (ex s).2.skip
 have h16 := len_skip s.skip
 have f1 : (varS s).2.len = (valE s.typ.name).2.len := rfl
 have f2 : (supS s).2.len = ((ar s.skip).2.need sSemi).len := rfl
 have f3 : (resS s.skip).2.len ≤ s.len := by
   unfold resS; split
   · show s.skip.skip.len ≤ _; omega
   · show (finE s.skip).2.len ≤ _; omega
 have f4 : (plaS s).2.len ≤ s.len := by
   unfold plaS; split
   · show (finE (ex s).2.skip).2.len ≤ _; omega
   · show ((ex s).2.need sSemi).len ≤ _; omega
 unfold stS
 repeat' split
 all_goals first | exact f4 | exact f3 | omega | (show (finE s.skip).2.len ≤ _; omega) | (show (finE (s.skip.num 9999)).2.len ≤ _; omega)
theorem len_late (s : RS) (a : Int) : (s.lateN a).len = s.len := by unfold RS.lateN; split <;> rfl
theorem runS_len : ∀ (n : Nat) (m : Ms) (s : RS), (runS n m s).2.len ≤ s.len ∧ ∀ c, m = .body c → 1 ≤ n → (runS n m s).2.len ≤ s.len - 1 := by
 intro n
 induction n with
 | zero => intro m s; exact ⟨Nat.le_refl _, fun _ _ h => by omega⟩
 | succ n ih =>
   intro m s
   cases m with
   | body c =>
     have h1 := len_enter s sBra
     have h2 := (ih (.loop c []) (s.enter sBra)).1
     have h3 := len_leave (runS n (.loop c []) (s.enter sBra)).2 sKet
     have : (runS (n + 1) (.body c) s).2.len ≤ s.len - 1 := by show ((runS n (.loop c []) (s.enter sBra)).2.leave sKet).len ≤ _; omega
     exact ⟨by omega, fun _ _ _ => this⟩
   | loop c l =>
     refine ⟨?_, fun _ h => by cases h⟩
     simp only [runS]
     split
     · have h0 := len_any (b := runS n (.body false)) (fun s => (ih _ s).1) s
       refine Nat.le_trans (ih _ _).1 ?_
       split
       · exact h0
       · rw [len_late]; exact h0
     · exact Nat.le_refl _
theorem len_body (n : Nat) (c : Bool) (s : RS) (hn : 1 ≤ n) : (runS n (.body c) s).2.len ≤ s.len - 1 := (runS_len n _ s).2 c rfl hn
def bd (c : Bool) (s : RS) : List Nd × RS := runS (4 * s.len + 3) (.body c) s
abbrev Pm := ByteArray × ByteArray
def parV (s : RS) : Pm × RS := ((s.typV, s.typ.nameV), s.typ.name)
def moreP : Nat → List Pm → RS → List Pm × RS
 | 0, l, s => (l, s)
 | n + 1, l, s => if s.sees 0 sComma = true then moreP n (l ++ [(parV s.skip).1]) (parV s.skip).2 else (l, s)
def lstP (s : RS) : List Pm × RS := if s.sees 0 sShut = true then ([], s) else moreP (s.len + 1) [(parV s).1] (parV s).2
def parP (s : RS) : List Pm × RS := ((lstP (s.need sOpen)).1, (lstP (s.need sOpen)).2.need sShut)
def mkM (st ct : Bool) (ty nm : ByteArray) (ps : List Pm) (l : List Nd) : Nd := .mt st ct ty nm (.slice none 0 0) ps (.slice none 0 0) l
def mkF (st : Bool) (ty nm : ByteArray) (l : List Nd) : Nd := .fd st ty nm (.slice none 0 0) l
def metM (st : Bool) (ty nm : ByteArray) (s : RS) : Nd × RS := (mkM st false ty nm (parP s).1 (bd false (parP s).2).1, (bd false (parP s).2).2)
def fldM (st : Bool) (ty nm : ByteArray) (s : RS) : Nd × RS := if s.sees 0 sEq = true then (mkF st ty nm [hdE (ex s.skip).1], (ex s.skip).2.need sSemi) else (mkF st ty nm [], s.need sSemi)
def ctoM (s : RS) : Nd × RS := (mkM false true E0 E0 (parP s.skip).1 (bd true (parP s.skip).2).1, (bd true (parP s.skip).2).2)
def RS.ctorB (s : RS) (own : ByteArray) : Bool := (match clP s.ws[0]? with | some t => t.toList == own.toList | none => false) && s.sees 1 sOpen
def memM (own : ByteArray) (s : RS) : Nd × RS :=
 if s.sees 0 kStatic = false ∧ (s.take kStatic).ctorB own = true then ctoM (s.take kStatic)
 else if (s.take kStatic).sees 0 kVoid = true then metM (s.sees 0 kStatic) kVoid (s.take kStatic).skip.nameV (s.take kStatic).skip.name
 else if (s.take kStatic).typ.name.sees 0 sOpen = true then metM (s.sees 0 kStatic) (s.take kStatic).typV (s.take kStatic).typ.nameV (s.take kStatic).typ.name
 else fldM (s.sees 0 kStatic) (s.take kStatic).typV (s.take kStatic).typ.nameV (s.take kStatic).typ.name
def isF : Nd → Bool
 | .fd .. => true
 | _ => false
def loopC : Nat → ByteArray → List Nd → List Nd → RS → (List Nd × List Nd) × RS
 | 0, _, f, g, s => ((f, g), s)
 | n + 1, own, f, g, s =>
   if s.until sKet = true then
     if isF (memM own s).1 = true then loopC n own (f ++ [(memM own s).1]) g (memM own s).2 else loopC n own f (g ++ [(memM own s).1]) (memM own s).2
   else ((f, g), s)
def kl1 (s : RS) : RS := (s.need kClass).class
def kl2 (s : RS) : RS := if (kl1 s).sees 0 kExtends = true then (kl1 s).skip.class else kl1 s
def clSup (s : RS) : ByteArray := if (kl1 s).sees 0 kExtends = true then (kl1 s).skip.classV else E0
def kl3 (s : RS) : RS := (kl2 s).need sBra
def clB (s : RS) : (List Nd × List Nd) × RS := loopC ((kl3 s).len + 1) (s.need kClass).classV [] [] (kl3 s)
def clsC (s : RS) : Nd × RS := (.cl (s.need kClass).classV (clSup s) (.slice none 0 0) (.slice none 0 0) (clB s).1.1 (clB s).1.2, (clB s).2.need sKet)
def loopG : Nat → List Nd → RS → List Nd × RS
 | 0, l, s => (l, s)
 | n + 1, l, s => if s.ws.isEmpty = true then (l, s) else loopG n (l ++ [(clsC s).1]) (clsC s).2
def prg (s : RS) : List Nd × RS := loopG (s.len + 1) [] s
theorem len_bd (c : Bool) (s : RS) : (bd c s).2.len ≤ s.len - 1 := len_body _ _ _ (by omega)
theorem len_parV (s : RS) : (parV s).2.len ≤ s.len - 1 := by
 have h1 := len_typ s
 have h2 := len_name s.typ
 show s.typ.name.len ≤ _; omega
theorem len_moreP : ∀ (n : Nat) (l : List Pm) (s : RS), (moreP n l s).2.len ≤ s.len := by
 intro n
 induction n with
 | zero => intro l s; exact Nat.le_refl _
 | succ n ih =>
   intro l s
   simp only [moreP]
   split
   · have h1 := len_skip s
     have h2 := len_parV s.skip
     exact Nat.le_trans (ih _ _) (by omega)
   · exact Nat.le_refl _
theorem len_lstP (s : RS) : (lstP s).2.len ≤ s.len := by
 unfold lstP; split
 · exact Nat.le_refl _
 · have h2 := len_parV s
   exact Nat.le_trans (len_moreP _ _ _) (by omega)
theorem len_parP (s : RS) : (parP s).2.len ≤ s.len - 1 := by
 have h1 := len_need s sOpen
 have h2 := len_lstP (s.need sOpen)
 have h3 := len_need (lstP (s.need sOpen)).2 sShut
 show ((lstP (s.need sOpen)).2.need sShut).len ≤ _; omega
theorem len_metM (st : Bool) (ty nm : ByteArray) (s : RS) : (metM st ty nm s).2.len ≤ s.len - 1 := by
 have h1 := len_parP s
 have h2 := len_bd false (parP s).2
 show (bd false (parP s).2).2.len ≤ _; omega
theorem len_fldM (st : Bool) (ty nm : ByteArray) (s : RS) : (fldM st ty nm s).2.len ≤ s.len - 1 := by
 have h1 := len_skip s
 have h2 := len_ex s.skip
 have h3 := len_need (ex s.skip).2 sSemi
 have h4 := len_need s sSemi
 unfold fldM; split
 · show ((ex s.skip).2.need sSemi).len ≤ _; omega
 · show (s.need sSemi).len ≤ _; omega
theorem len_ctoM (s : RS) : (ctoM s).2.len ≤ s.len - 1 := by
 have h1 := len_skip s
 have h2 := len_parP s.skip
 have h3 := len_bd true (parP s.skip).2
 show (bd true (parP s.skip).2).2.len ≤ _; omega
theorem len_take (s : RS) (p : ByteArray) : (s.take p).len ≤ s.len := by
 have := len_skip s
 unfold RS.take; split <;> omega
theorem len_memM (own : ByteArray) (s : RS) : (memM own s).2.len ≤ s.len - 1 := by
 have h0 := len_take s kStatic
 have h1 := len_ctoM (s.take kStatic)
 have h2 := len_skip (s.take kStatic)
 have h3 := len_name (s.take kStatic).skip
 have h4 := len_metM (s.sees 0 kStatic) kVoid (s.take kStatic).skip.nameV (s.take kStatic).skip.name
 have h5 := len_typ (s.take kStatic)
 have h6 := len_name (s.take kStatic).typ
 have h7 := len_metM (s.sees 0 kStatic) (s.take kStatic).typV (s.take kStatic).typ.nameV (s.take kStatic).typ.name
 have h8 := len_fldM (s.sees 0 kStatic) (s.take kStatic).typV (s.take kStatic).typ.nameV (s.take kStatic).typ.name
 unfold memM
 repeat' split
 all_goals omega
theorem len_loopC : ∀ (n : Nat) (own : ByteArray) (f g : List Nd) (s : RS), (loopC n own f g s).2.len ≤ s.len := by
 intro n
 induction n with
 | zero => intro own f g s; exact Nat.le_refl _
 | succ n ih =>
   intro own f g s
   have := len_memM own s
   simp only [loopC]
   repeat' split
   · exact Nat.le_trans (ih _ _ _ _) (by omega)
   · exact Nat.le_trans (ih _ _ _ _) (by omega)
   · exact Nat.le_refl _
theorem len_kl3 (s : RS) : (kl3 s).len ≤ s.len - 1 := by
 have h1 := len_need s kClass
 have h2 := len_class (s.need kClass)
 have h3 := len_skip (kl1 s)
 have h4 := len_class (kl1 s).skip
 have h5 := len_need (kl2 s) sBra
 have e1 : (kl1 s).len = (s.need kClass).class.len := rfl
 have e2 : (kl2 s).len ≤ (kl1 s).len := by unfold kl2; split <;> omega
 show ((kl2 s).need sBra).len ≤ _; omega
theorem len_clsC (s : RS) : (clsC s).2.len ≤ s.len - 1 := by
 have h1 := len_kl3 s
 have h2 : (clB s).2.len ≤ (kl3 s).len := len_loopC _ _ _ _ _
 have h3 := len_need (clB s).2 sKet
 show ((clB s).2.need sKet).len ≤ _; omega
end
section
open Go.RowKit
def NF (t : Tg) (y : Nd) : Prop := y.tag = t ∧ ∀ u ∈ cellsN y, u.oneCell' = true
def NK (t : Tg) (B : Nat) (r : Option Nat) (w : World) (x y : Nd) : Prop :=
 NF t y ∧ (∀ ws, (∀ k j u, B ≤ k → some k ≠ r → w.cell? ⟨k, j, none⟩ = some u → ws.cell? ⟨k, j, none⟩ = some u) → Kd ws y) ∧ bareN y = bareN x
theorem NK.mono {t : Tg} {B C : Nat} {r : Option Nat} {w : World} {x y : Nd} (h : NK t B r w x y) (hC : C ≤ B) : NK t C r w x y :=
 ⟨h.1, fun ws hk => h.2.1 ws fun k j u hB hr hu => hk k j u (Nat.le_trans hC hB) hr hu, h.2.2⟩
theorem NK.next {t : Tg} {B : Nat} {r : Option Nat} {w w' : World} {x y : Nd} (h : NK t B r w x y) (hw : ∀ k j u, B ≤ k → some k ≠ r → w.cell? ⟨k, j, none⟩ = some u → w'.cell? ⟨k, j, none⟩ = some u) : NK t B r w' x y :=
 ⟨h.1, fun ws hk => h.2.1 ws fun k j u hB hr hu => hk k j u hB hr (hw k j u hB hr hu), h.2.2⟩
theorem NK.grown {t : Tg} {B g : Nat} {r : Option Nat} {w w' : World} {x y : Nd} (h : NK t B r w x y) (hg : w.grownBy w' (some g)) (hB : g < B ∨ r = some g) : NK t B r w' x y :=
 h.next fun k j u hk hr hu => (World.cell?_of_block (a := ⟨k, j, none⟩) (hg.block k (World.block_lt_of_cell? w (a := ⟨k, j, none⟩) hu) (by
   intro e
   rcases hB with h | h
   · injection e with e; omega
   · exact hr (e.trans h.symm)))).trans hu
theorem NK.below {t : Tg} {B : Nat} {r : Option Nat} {w w' : World} {x y : Nd} (h : NK t B r w x y) (hb : Below w.heap.size w w') : NK t B r w' x y := h.next fun k j u _ _ hu => Keep.below hb _ _ hu
theorem ExK.nk {B : Nat} {r : Option Nat} {w : World} {x y : Nd} (h : ExK B r w x y) : NK .ex B r w x y := by
 obtain ⟨hex, hk⟩ := h.kd
 obtain ⟨k, n, tx, nm, ty, A, cap, l, e, hs, hf, hb⟩ := h
 refine ⟨⟨hex.tag, fun u hu => ex_one (es := [y]) (by simpa using hex) u (by simpa using hu)⟩, hk, hb⟩
def OwnT (t : Tg) (T : TypeId) (B : Nat) (r : Option Nat) (w : World) (v : Value) (ys : List Nd) : Prop :=
 w.ownsRow B T t.sz v ys.length (ys.flatMap cellsN) ∧ (∀ y ∈ ys, NF t y) ∧ KR B v.ownBlock r w ys ∧ ys.length ≤ 2000000
section
variable {t : Tg} {T : TypeId} {B : Nat} {r : Option Nat} {w w' : World} {v : Value} {ys : List Nd}
theorem OwnT.nil : OwnT t T B r w (.slice none 0 0) [] := ⟨World.ownsRow_nil _ _ _ _, by simp, fun _ _ => trivial, by simp⟩
theorem OwnT.lt (h : OwnT t T B r w v ys) : ∀ k, v.ownBlock = some k → B ≤ k ∧ k < w.heap.size := h.1.lt
theorem OwnT.form (h : OwnT t T B r w v ys) : ∃ A cap, v = .slice A ys.length cap := by obtain ⟨A, cap, e, _⟩ := own_form h.1; exact ⟨A, cap, e⟩
theorem OwnT.one' (h : OwnT t T B r w v ys) : ∀ u ∈ ys.flatMap cellsN, u.oneCell' = true := by
 intro u hu
 rw [List.mem_flatMap] at hu
 obtain ⟨x, hx, hu⟩ := hu
 exact (h.2.1 x hx).2 u hu
theorem OwnT.other {g : Nat} (h : OwnT t T B r w v ys) (hg : w.grownBy w' (some g)) (hv : v.ownBlock ≠ some g) (hr : g < B ∨ r = some g) : OwnT t T B r w' v ys :=
 ⟨h.1.kept hg (by
   cases hv' : v.ownBlock with
   | none => exact .inl rfl
   | some k => exact .inr (by rw [hv'] at hv; simpa using hv)), h.2.1, fun ws hs => h.2.2.1 ws fun k j u hk n1 n2 hu => hs k j u hk n1 n2 ((World.cell?_of_block (a := ⟨k, j, none⟩) (hg.block k (World.block_lt_of_cell? w (a := ⟨k, j, none⟩) hu) (by
     intro e
     rcases hr with h' | h'
     · injection e with e; omega
     · exact n2 (e.trans h'.symm)))).trans hu), h.2.2.2⟩
theorem OwnT.grown {c : Nat} (h : OwnT t T B r w v ys) (hg : w.grownBy w' (some c)) (hc : c < B) : OwnT t T B r w' v ys :=
 h.other hg (fun e => by have := (h.lt c e).1; omega) (.inl hc)
theorem OwnT.below (h : OwnT t T B r w v ys) (hb : Below w.heap.size w w') : OwnT t T B r w' v ys :=
 ⟨own_next h.1 hb, h.2.1, fun ws hs => h.2.2.1 ws fun k j u hk n1 n2 hu => hs k j u hk n1 n2 (Keep.below hb _ _ hu), h.2.2.2⟩
theorem OwnT.excl {g : Nat} (h : OwnT t T B none w v ys) (hb : Below w.heap.size w w') (hg : w.heap.size ≤ g) : OwnT t T B (some g) w' v ys := by
 refine ⟨own_next h.1 hb, h.2.1, fun ws hs => h.2.2.1 ws fun k j u hk n1 _ hu => ?_, h.2.2.2⟩
 have hlt := World.block_lt_of_cell? w (a := ⟨k, j, none⟩) hu
 simp only at hlt
 exact hs k j u hk n1 (by simp; omega) (Keep.below hb _ _ hu)
theorem OwnT.fk (h : OwnT t T B r w v ys) : FkL B w t v ys := by
 obtain ⟨ho, hx, hk, hm⟩ := h
 have ht : ∀ x ∈ ys, x.tag = t := fun x hx' => (hx x hx').1
 intro ws hs
 refine ⟨?_, hk ws fun k j u hB _ _ hu => hs k j u hB hu⟩
 obtain ⟨A, cap, rfl, hc⟩ := own_form ho
 refine ⟨A, cap, rfl, ⟨by unfold maxLen; omega, hc⟩, ht, fun hn => ?_⟩
 obtain ⟨g, cap', hv, hg, hl, hat⟩ := own_row ho hn
 injection hv with h1 h2 h3
 refine ⟨g, 0, h1, fun i x hx j u hu => ?_⟩
 have hj : j < t.sz := by rw [← ht x (List.mem_of_getElem? hx), ← cells_len]; exact (List.getElem?_eq_some_iff.1 hu).1
 have := (hat (i * t.sz + j) u (by rw [flat_get ys i j x ht hx hj]; exact hu)).1
 rw [Nat.zero_add]
 exact hs g _ u hg this
theorem OwnT.one {x y : Nd} (h : NK t B r w x y) (hB : B ≤ w.heap.size) : OwnT t T B r (w.alloc (.cells (cellsN y).toArray T)) (.slice (some ⟨w.heap.size, 0, none⟩) 1 1) [y] := by
 obtain ⟨hex, hk, _⟩ := h
 have hl := World.ownsRow_lit (base := B) (e := T) (size := t.sz) w (cellsN y).toArray 1 hB (by unfold maxLen; omega) (by simp [cells_len, hex.1])
 refine ⟨by simpa using hl, by simpa using hex, ?_, by simp⟩
 intro ws hs
 refine ⟨hk ws fun k j u hB' hr hu => hs k j u hB' ?_ hr (Keep.below ((Below.refl _ w).alloc (Nat.le_refl _) _) _ _ hu), trivial⟩
 have hlt := World.block_lt_of_cell? w (a := ⟨k, j, none⟩) hu
 simp only [Value.ownBlock] at hlt ⊢
 simp; omega
theorem OwnT.app {B2 : Nat} {v2 v' : Value} {xs : List Nd} (h : OwnT t T B r w v xs) (h2 : OwnT t T B2 none w v2 ys) (hB : B ≤ B2) (hv : ∀ k, v.ownBlock = some k → k < B2) (hr : ∀ g, r = some g → g < B2)
   (ho : w'.ownsRow B T t.sz v' (xs.length + ys.length) (xs.flatMap cellsN ++ ys.flatMap cellsN)) (hg : w.grownBy w' v.ownBlock) (hat : v'.ownBlock = v.ownBlock ∨ v'.ownBlock = some w.heap.size) (hm : xs.length + ys.length ≤ 2000000) : OwnT t T B r w' v' (xs ++ ys) := by
 have key : ∀ k j u, some k ≠ v.ownBlock → w.cell? ⟨k, j, none⟩ = some u → w'.cell? ⟨k, j, none⟩ = some u ∧ some k ≠ v'.ownBlock := by
   intro k j u hk hu
   have hlt := World.block_lt_of_cell? w (a := ⟨k, j, none⟩) hu
   simp only at hlt
   refine ⟨(World.cell?_of_block (a := ⟨k, j, none⟩) (hg.block k hlt hk)).trans hu, ?_⟩
   rcases hat with e | e
   · rw [e]; exact hk
   · rw [e]; intro e'; injection e' with e'; omega
 refine ⟨by simpa using ho, fun y hy => ?_, fun ws hs => KdL_append (h.2.2.1 ws fun k j u hk hne hnr hu => ?_) (h2.2.2.1 ws fun k j u hk hne _ hu => ?_), by simpa using hm⟩
 · rcases List.mem_append.1 hy with hy | hy
   · exact h.2.1 y hy
   · exact h2.2.1 y hy
 · exact hs k j u hk (key k j u hne hu).2 hnr (key k j u hne hu).1
 · have hkv : some k ≠ v.ownBlock := by
     intro e
     have := hv k e.symm
     omega
   exact hs k j u (Nat.le_trans hB hk) (key k j u hkv hu).2 (fun e => by have := hr k e.symm; omega) (key k j u hkv hu).1
theorem OwnE.own (h : OwnE B w v ys) : OwnT .ex 36 B none w v ys := by
 refine ⟨h.1, fun y hy => ⟨(h.2.1 y hy).tag, fun u hu => ex_one (es := [y]) (by simpa using h.2.1 y hy) u (by simpa using hu)⟩, fun ws hs => h.2.2.1 ws fun k j u hk hne hu => hs k j u hk hne (by simp) hu, h.2.2.2⟩
end
theorem FkL.grown {B c : Nat} {w w' : World} {t : Tg} {v : Value} {l : List Nd} (h : FkL B w t v l) (hg : w.grownBy w' (some c)) (hc : c < B) : FkL B w' t v l :=
 h.next fun k j u hk hu => (World.cell?_of_block (a := ⟨k, j, none⟩) (hg.block k (World.block_lt_of_cell? w (a := ⟨k, j, none⟩) hu) (by simp; omega))).trans hu
theorem FkL.one {B : Nat} {w : World} {t : Tg} {v : Value} {l : List Nd} (h : FkL B w t v l) : v.oneCell' = true := by
 obtain ⟨A, cap, rfl⟩ := h.now.1.form
 rfl
theorem st_node {B : Nat} {w : World} {k n : Int} {ty nm : ByteArray} {ve va vb vc : Value} {e a b c e' a' b' c' : List Nd} (hs : ty.size ≤ maxLen ∧ nm.size ≤ maxLen) (he : FkL B w .ex ve e) (ha : FkL B w .st va a) (hb : FkL B w .st vb b) (hc : FkL B w .st vc c)
   (qe : bareL e = bareL e') (qa : bareL a = bareL a') (qb : bareL b = bareL b') (qc : bareL c = bareL c') : NK .st B none w (mkS k n ty nm e' a' b' c') (.st k n ty nm ve va vb vc e a b c 0) := by
 refine ⟨⟨rfl, ?_⟩, fun ws hk => ?_, ?_⟩
 · intro u hu
   simp only [cellsN, List.mem_cons, List.not_mem_nil, or_false] at hu
   rcases hu with rfl | rfl | rfl | rfl | rfl | rfl | rfl | rfl | rfl
   any_goals rfl
   · exact he.one
   · exact ha.one
   · exact hb.one
   · exact hc.one
 · have hk' : ∀ k j u, B ≤ k → w.cell? ⟨k, j, none⟩ = some u → ws.cell? ⟨k, j, none⟩ = some u := fun k j u hB hu => hk k j u hB (by simp) hu
   rw [Kd]
   exact ⟨hs, he ws hk', ha ws hk', hb ws hk', hc ws hk'⟩
 · simp only [mkS, bareN]; rw [qe, qa, qb, qc]
theorem fd_node {B : Nat} {w : World} {s : Bool} {ty nm : ByteArray} {v : Value} {l l' : List Nd} (hs : ty.size ≤ maxLen ∧ nm.size ≤ maxLen) (he : FkL B w .ex v l) (q : bareL l = bareL l') : NK .fd B none w (mkF s ty nm l') (.fd s ty nm v l) := by
 refine ⟨⟨rfl, ?_⟩, fun ws hk => ?_, ?_⟩
 · intro u hu
   simp only [cellsN, List.mem_cons, List.not_mem_nil, or_false] at hu
   rcases hu with rfl | rfl | rfl | rfl
   any_goals rfl
   · exact he.one
 · have hk' : ∀ k j u, B ≤ k → w.cell? ⟨k, j, none⟩ = some u → ws.cell? ⟨k, j, none⟩ = some u := fun k j u hB hu => hk k j u hB (by simp) hu
   rw [Kd]
   exact ⟨hs, he ws hk'⟩
 · simp only [mkF, bareN]; rw [q]
def FkP (B : Nat) (w : World) (v : Value) (l : List Pm) : Prop := ∀ ws, (∀ k j u, B ≤ k → w.cell? ⟨k, j, none⟩ = some u → ws.cell? ⟨k, j, none⟩ = some u) → Pw ws v l
theorem FkP.mono {B C : Nat} {w : World} {v : Value} {l : List Pm} (h : FkP B w v l) (hB : C ≤ B) : FkP C w v l := fun ws hs => h ws fun k j u hk hu => hs k j u (Nat.le_trans hB hk) hu
theorem FkP.grown {B c : Nat} {w w' : World} {v : Value} {l : List Pm} (h : FkP B w v l) (hg : w.grownBy w' (some c)) (hc : c < B) : FkP B w' v l :=
 fun ws hs => h ws fun k j u hk hu => hs k j u hk ((World.cell?_of_block (a := ⟨k, j, none⟩) (hg.block k (World.block_lt_of_cell? w (a := ⟨k, j, none⟩) hu) (by simp; omega))).trans hu)
theorem FkP.form {B : Nat} {w : World} {v : Value} {l : List Pm} (h : FkP B w v l) : ∃ A cap, v = .slice A l.length cap := by
 obtain ⟨A, cap, e, _⟩ := h w fun _ _ _ _ h => h
 exact ⟨A, cap, e⟩
theorem mt_node {B : Nat} {w : World} {s ct : Bool} {ty nm : ByteArray} {vp v : Value} {ps : List Pm} {l l' : List Nd} (hs : ty.size ≤ maxLen ∧ nm.size ≤ maxLen) (hp : FkP B w vp ps) (he : FkL B w .st v l) (q : bareL l = bareL l') : NK .mt B none w (mkM s ct ty nm ps l') (.mt s ct ty nm vp ps v l) := by
 refine ⟨⟨rfl, ?_⟩, fun ws hk => ?_, ?_⟩
 · intro u hu
   simp only [cellsN, List.mem_cons, List.not_mem_nil, or_false] at hu
   rcases hu with rfl | rfl | rfl | rfl | rfl | rfl
   any_goals rfl
   · obtain ⟨A, cap, rfl⟩ := hp.form; rfl
   · exact he.one
 · have hk' : ∀ k j u, B ≤ k → w.cell? ⟨k, j, none⟩ = some u → ws.cell? ⟨k, j, none⟩ = some u := fun k j u hB hu => hk k j u hB (by simp) hu
   rw [Kd]
   exact ⟨hs, hp ws hk', he ws hk'⟩
 · simp only [mkM, bareN]; rw [q]
theorem cl_node {B : Nat} {w : World} {nm sp : ByteArray} {vf vm : Value} {f g f' g' : List Nd} (hs : nm.size ≤ maxLen ∧ sp.size ≤ maxLen) (hf : FkL B w .fd vf f) (hg : FkL B w .mt vm g) (qf : bareL f = bareL f') (qg : bareL g = bareL g') :
   NK .cl B none w (.cl nm sp (.slice none 0 0) (.slice none 0 0) f' g') (.cl nm sp vf vm f g) := by
 refine ⟨⟨rfl, ?_⟩, fun ws hk => ?_, ?_⟩
 · intro u hu
   simp only [cellsN, List.mem_cons, List.not_mem_nil, or_false] at hu
   rcases hu with rfl | rfl | rfl | rfl
   any_goals rfl
   · exact hf.one
   · exact hg.one
 · have hk' : ∀ k j u, B ≤ k → w.cell? ⟨k, j, none⟩ = some u → ws.cell? ⟨k, j, none⟩ = some u := fun k j u hB hu => hk k j u hB (by simp) hu
   rw [Kd]
   exact ⟨hs, hf ws hk', hg ws hk'⟩
 · simp only [bareN]; rw [qf, qg]
theorem Tryz.infoSt : (Tryz.prog.info? 118).map (fun i => (i.zero, i.size, i.bytes)) = some (some (.agg #[.int .i64 0, .int .i32 0, .string ⟨#[]⟩, .string ⟨#[]⟩, .slice none 0 0, .slice none 0 0, .slice none 0 0, .slice none 0 0, .int .i64 0]), 9, 152) := by kernel_rfl
theorem Tryz.infoFd : (Tryz.prog.info? 61).map (fun i => (i.zero, i.size, i.bytes)) = some (some (.agg #[.bool false, .string ⟨#[]⟩, .string ⟨#[]⟩, .slice none 0 0]), 4, 64) := by kernel_rfl
theorem Tryz.infoMt : (Tryz.prog.info? 48).map (fun i => (i.zero, i.size, i.bytes)) = some (some (.agg #[.bool false, .bool false, .string ⟨#[]⟩, .string ⟨#[]⟩, .slice none 0 0, .slice none 0 0]), 6, 88) := by kernel_rfl
theorem Tryz.infoCl : (Tryz.prog.info? 44).map (fun i => (i.zero, i.size, i.bytes)) = some (some (.agg #[.string ⟨#[]⟩, .string ⟨#[]⟩, .slice none 0 0, .slice none 0 0]), 4, 80) := by kernel_rfl
theorem Tryz.infoPm : (Tryz.prog.info? 95).map (fun i => (i.zero, i.size, i.bytes)) = some (some (.agg #[.string ⟨#[]⟩, .string ⟨#[]⟩]), 2, 32) := by kernel_rfl
def FkX (B : Nat) (r : Option Nat) (w : World) (t : Tg) (v : Value) (l : List Nd) : Prop :=
 ∀ ws, (∀ k j u, B ≤ k → some k ≠ r → w.cell? ⟨k, j, none⟩ = some u → ws.cell? ⟨k, j, none⟩ = some u) → Rw ws t v l ∧ KdL ws l
section
variable {B : Nat} {r : Option Nat} {w w' : World} {t : Tg} {v : Value} {l : List Nd}
theorem FkL.x (h : FkL B w t v l) : FkX B none w t v l := fun ws hs => h ws fun k j u hk hu => hs k j u hk (by simp) hu
theorem FkX.fk (h : FkX B r w t v l) : FkL B w t v l := fun ws hs => h ws fun k j u hk _ hu => hs k j u hk hu
theorem FkX.mono {C : Nat} (h : FkX B r w t v l) (hC : C ≤ B) : FkX C r w t v l := fun ws hs => h ws fun k j u hk hr hu => hs k j u (Nat.le_trans hC hk) hr hu
theorem FkX.grown {g : Nat} (h : FkX B r w t v l) (hg : w.grownBy w' (some g)) (hB : g < B ∨ r = some g) : FkX B r w' t v l :=
 fun ws hs => h ws fun k j u hk hr hu => hs k j u hk hr ((World.cell?_of_block (a := ⟨k, j, none⟩) (hg.block k (World.block_lt_of_cell? w (a := ⟨k, j, none⟩) hu) (by
   intro e
   rcases hB with h | h
   · injection e with e; omega
   · exact hr (e.trans h.symm)))).trans hu)
theorem FkX.excl {g : Nat} (h : FkX B none w t v l) (hb : Below w.heap.size w w') (hg : w.heap.size ≤ g) : FkX B (some g) w' t v l := by
 intro ws hs
 refine h ws fun k j u hk _ hu => ?_
 have hlt := World.block_lt_of_cell? w (a := ⟨k, j, none⟩) hu
 simp only at hlt
 exact hs k j u hk (by simp; omega) (Keep.below hb _ _ hu)
theorem FkL.past {g C : Nat} (h : FkL B w t v l) (hg : g < B) (hC : C ≤ B) : FkX C (some g) w t v l :=
 fun ws hs => h ws fun k j u hk hu => hs k j u (Nat.le_trans hC hk) (by simp; omega) hu
end
def StF (y : Nd) : Prop := ∃ (k n : Int) (ty nm : ByteArray) (A1 A2 A3 A4 : Option Addr) (c1 c2 c3 c4 : Nat) (l1 l2 l3 l4 : List Nd), y = .st k n ty nm (.slice A1 l1.length c1) (.slice A2 l2.length c2) (.slice A3 l3.length c3) (.slice A4 l4.length c4) l1 l2 l3 l4 0
def ExAny : Prop := ∀ (W0 w : World) (c : Nat) (s : RS), Vars W0 → Rd W0 c s w → Calls Tryz.prog 28 #[.pointer (some ⟨c, 0, none⟩)] w (ExC W0 c w (ex s))
def ArAny : Prop := ∀ (W0 w : World) (c : Nat) (s : RS), Vars W0 → Rd W0 c s w → Calls Tryz.prog 150 #[.pointer (some ⟨c, 0, none⟩)] w (LsC W0 c w (ar s))
def BlC (W0 : World) (c : Nat) (w : World) (r : List Nd × RS) (e : Ending) (w' : World) : Prop := ∃ v ys, e = .returned v ∧ FkL w.heap.size w' .st v ys ∧ bareL ys = bareL r.1 ∧ Mv W0 c r.2 w w'
def StC (W0 : World) (c : Nat) (w : World) (r : Nd × RS) (e : Ending) (w' : World) : Prop := ∃ y, e = .returned (.agg (cellsN y).toArray) ∧ StF y ∧ NK .st w.heap.size none w' r.1 y ∧ Mv W0 c r.2 w w'
end
section
open Go.RowKit
theorem finE_of (HE : ExAny) (W0 w : World) (c : Nat) (s : RS) (hv : Vars W0) (h : Rd W0 c s w) : Calls Tryz.prog 159 #[.pointer (some ⟨c, 0, none⟩)] w (LsC W0 c w (finE s)) := by
 obtain ⟨q, hq⟩ : ∃ q, ex (s) = q := ⟨_, rfl⟩
 have HRE : Hid (finE s = ([hdE q.1], q.2.need sSemi)) := Lib.hid (by simp only [finE, hq])
 obtain ⟨RR, hRR⟩ : ∃ RR, finE s = RR := ⟨_, rfl⟩
 rw [hRR] at HRE ⊢
 have hlt := h.lt
 have hle0 := h.le
 have HX : Hid (∀ w', Rd W0 c (s) w' → Calls Tryz.prog 28 #[.pointer (some ⟨c, 0, none⟩)] w' (ExC W0 c w' q)) := by
   show ∀ w', _
   intro w' h'; have := HE W0 w' c _ hv h'; rw [hq] at this; exact this
 have HN : Hid (∀ w', Rd W0 c (q.2) w' → Calls Tryz.prog 55 #[.pointer (some ⟨c, 0, none⟩), .string sSemi] w' fun e w'' => e = .returned (.tuple #[]) ∧ Mv W0 c (RS.need (q.2) sSemi) w' w'') := by
   show ∀ w', _
   intro w' h'; exact need_any W0 w' c _ sSemi h'
 have HM := Lib.hid (Mv.refl h)
 clear hq hRR h hv HE
 go_enter Tryz.func159, Tryz.ntmps159
 go_wp2_with fail
 refine (HX.out _ HM.out.2).mono ?_
 clear HX
 rintro e w2 ⟨y, rfl, hk, hm⟩
 replace HM := Lib.hid (HM.out.trans hm)
 have hs2 := hm.1.size
 have HK := Lib.hid (hk.mono (show w.heap.size ≤ _ by omega))
 obtain ⟨k, m, tx, nm, ty, A, cap, l, rfl, _, _, _⟩ := hk
 clear hm
 obtain ⟨W3, hW3⟩ : ∃ W, w2.alloc (.cells #[.int .i64 k, .int .i32 m, .string tx, .string nm, .string ty, .slice A l.length cap, .string ⟨#[]⟩, .int .i64 0] 36) = W := ⟨_, rfl⟩
 have hb : Below w2.heap.size w2 W3 := by rw [← hW3]; exact (Below.refl _ _).alloc (Nat.le_refl _) _
 have HL : Hid (Bx W3 w2.heap.size #[.int .i64 k, .int .i32 m, .string tx, .string nm, .string ty, .slice A l.length cap, .string ⟨#[]⟩, .int .i64 0] 36) := Lib.hid (by rw [← hW3]; exact Bx.new _ _ _)
 replace HM := Lib.hid (HM.out.trans (Mv.below hb HM.out.2))
 replace HK := Lib.hid (HK.out.below hb)
 have hs3 := hb.size
 clear hb
 subst hW3
 simp only [cellsN]
 go_wp2_with fail
 refine (HN.out _ HM.out.2).mono ?_
 clear HN
 rintro e w4 ⟨rfl, hm⟩
 replace HM := Lib.hid (HM.out.trans hm)
 replace HL := Lib.hid (Bx.grown HL.out hm.1 (by omega))
 replace HK := Lib.hid (HK.out.grown hm.1 (.inl hlt))
 have hs4 := hm.1.size
 clear hm
 obtain ⟨a0, a1, a2, a3, a4, a5, a6, a7⟩ := HL.out.all_8
 go_wp2_with fail
 go_ret
 have HY := Lib.hid (OwnE.one HK.out (show w.heap.size ≤ w4.heap.size by omega))
 rw [HRE.out]
 exact ⟨_, _, rfl, HY.out, bare_one (ExK.nk HK.out).2.2, HM.out.trans (Mv.below ((Below.refl _ _).alloc (Nat.le_refl _) _) HM.out.2)⟩
theorem cond_of (HE : ExAny) (W0 w : World) (c : Nat) (s : RS) (hv : Vars W0) (h : Rd W0 c s w) : Calls Tryz.prog 157 #[.pointer (some ⟨c, 0, none⟩)] w (LsC W0 c w (cond s)) := by
 obtain ⟨q, hq⟩ : ∃ q, ex (s.need sOpen) = q := ⟨_, rfl⟩
 have HRE : Hid (cond s = ([hdE q.1], q.2.need sShut)) := Lib.hid (by simp only [cond, hq])
 obtain ⟨RR, hRR⟩ : ∃ RR, cond s = RR := ⟨_, rfl⟩
 rw [hRR] at HRE ⊢
 have hlt := h.lt
 have hle0 := h.le
 have HN0 : Hid (∀ w', Rd W0 c (s) w' → Calls Tryz.prog 55 #[.pointer (some ⟨c, 0, none⟩), .string sOpen] w' fun e w'' => e = .returned (.tuple #[]) ∧ Mv W0 c (RS.need (s) sOpen) w' w'') := by
   show ∀ w', _
   intro w' h'; exact need_any W0 w' c _ sOpen h'
 have HX : Hid (∀ w', Rd W0 c (s.need sOpen) w' → Calls Tryz.prog 28 #[.pointer (some ⟨c, 0, none⟩)] w' (ExC W0 c w' q)) := by
   show ∀ w', _
   intro w' h'; have := HE W0 w' c _ hv h'; rw [hq] at this; exact this
 have HN : Hid (∀ w', Rd W0 c (q.2) w' → Calls Tryz.prog 55 #[.pointer (some ⟨c, 0, none⟩), .string sShut] w' fun e w'' => e = .returned (.tuple #[]) ∧ Mv W0 c (RS.need (q.2) sShut) w' w'') := by
   show ∀ w', _
   intro w' h'; exact need_any W0 w' c _ sShut h'
 have HM := Lib.hid (Mv.refl h)
 clear hq hRR h hv HE
 go_enter Tryz.func157, Tryz.ntmps157
 go_wp2_with fail
 refine (HN0.out _ HM.out.2).mono ?_
 clear HN0
 rintro e w1 ⟨rfl, hm⟩
 replace HM := Lib.hid (HM.out.trans hm)
 have hs1 := hm.1.size
 clear hm
 go_wp2_with fail
 refine (HX.out _ HM.out.2).mono ?_
 clear HX
 rintro e w2 ⟨y, rfl, hk, hm⟩
 replace HM := Lib.hid (HM.out.trans hm)
 have hs2 := hm.1.size
 have HK := Lib.hid (hk.mono (show w.heap.size ≤ _ by omega))
 obtain ⟨k, m, tx, nm, ty, A, cap, l, rfl, _, _, _⟩ := hk
 clear hm
 obtain ⟨W3, hW3⟩ : ∃ W, w2.alloc (.cells #[.int .i64 k, .int .i32 m, .string tx, .string nm, .string ty, .slice A l.length cap, .string ⟨#[]⟩, .int .i64 0] 36) = W := ⟨_, rfl⟩
 have hb : Below w2.heap.size w2 W3 := by rw [← hW3]; exact (Below.refl _ _).alloc (Nat.le_refl _) _
 have HL : Hid (Bx W3 w2.heap.size #[.int .i64 k, .int .i32 m, .string tx, .string nm, .string ty, .slice A l.length cap, .string ⟨#[]⟩, .int .i64 0] 36) := Lib.hid (by rw [← hW3]; exact Bx.new _ _ _)
 replace HM := Lib.hid (HM.out.trans (Mv.below hb HM.out.2))
 replace HK := Lib.hid (HK.out.below hb)
 have hs3 := hb.size
 clear hb
 subst hW3
 simp only [cellsN]
 go_wp2_with fail
 refine (HN.out _ HM.out.2).mono ?_
 clear HN
 rintro e w4 ⟨rfl, hm⟩
 replace HM := Lib.hid (HM.out.trans hm)
 replace HL := Lib.hid (Bx.grown HL.out hm.1 (by omega))
 replace HK := Lib.hid (HK.out.grown hm.1 (.inl hlt))
 have hs4 := hm.1.size
 clear hm
 obtain ⟨a0, a1, a2, a3, a4, a5, a6, a7⟩ := HL.out.all_8
 go_wp2_with fail
 go_ret
 have HY := Lib.hid (OwnE.one HK.out (show w.heap.size ≤ w4.heap.size by omega))
 rw [HRE.out]
 exact ⟨_, _, rfl, HY.out, bare_one (ExK.nk HK.out).2.2, HM.out.trans (Mv.below ((Below.refl _ _).alloc (Nat.le_refl _) _) HM.out.2)⟩
theorem valE_of (HE : ExAny) (W0 w : World) (c : Nat) (s : RS) (hv : Vars W0) (h : Rd W0 c s w) : Calls Tryz.prog 155 #[.pointer (some ⟨c, 0, none⟩)] w (LsC W0 c w (valE s)) := by
 obtain ⟨q, hq⟩ : ∃ q, finE (s.need sEq) = q := ⟨_, rfl⟩
 have HRE : Hid (valE s = q) := Lib.hid (by simp only [valE, hq])
 obtain ⟨RR, hRR⟩ : ∃ RR, valE s = RR := ⟨_, rfl⟩
 rw [hRR] at HRE ⊢
 have hlt := h.lt
 have hle0 := h.le
 have HN : Hid (∀ w', Rd W0 c (s) w' → Calls Tryz.prog 55 #[.pointer (some ⟨c, 0, none⟩), .string sEq] w' fun e w'' => e = .returned (.tuple #[]) ∧ Mv W0 c (RS.need (s) sEq) w' w'') := by
   show ∀ w', _
   intro w' h'; exact need_any W0 w' c _ sEq h'
 have HX : Hid (∀ w', Rd W0 c (s.need sEq) w' → Calls Tryz.prog 159 #[.pointer (some ⟨c, 0, none⟩)] w' (LsC W0 c w' q)) := by
   show ∀ w', _
   intro w' h'; have := finE_of HE W0 w' c _ hv h'; rw [hq] at this; exact this
 have HM := Lib.hid (Mv.refl h)
 clear hq hRR h hv HE
 go_enter Tryz.func155, Tryz.ntmps155
 go_wp2_with fail
 refine (HN.out _ HM.out.2).mono ?_
 clear HN
 rintro e w1 ⟨rfl, hm⟩
 replace HM := Lib.hid (HM.out.trans hm)
 have hs1 := hm.1.size
 clear hm
 go_wp2_with fail
 refine (HX.out _ HM.out.2).mono ?_
 clear HX
 rintro e w2 ⟨v, ys, rfl, ho, hq, hm⟩
 have HY := Lib.hid (ho.mono (show w.heap.size ≤ _ by omega))
 have HQ := Lib.hid hq
 obtain ⟨A, cap, rfl⟩ := ho.form
 replace HM := Lib.hid (HM.out.trans hm)
 clear ho hq hm
 go_wp2_with fail
 go_ret
 rw [HRE.out]
 exact ⟨_, ys, rfl, HY.out, HQ.out, HM.out⟩
end
section
open Go.RowKit
theorem sz_one (x : Nd) : sizeL [x] = x.size := by simp [sizeL]
theorem sz_mkE (k n : Int) (tx nm ty : ByteArray) (l : List Nd) : (mkE k n tx nm ty l).size = 1 + sizeL l := by simp [mkE, Nd.size]
theorem sz_two (x y : Nd) : sizeL [x, y] = x.size + y.size := by simp [sizeL]
theorem sz_noE : noE.size = 1 := by simp [noE, mkE, Nd.size, sizeL]
theorem sz_hd (l : List Nd) : (hdE l).size ≤ sizeL l ∨ ((hdE l).size = 1 ∧ l = []) := by
 cases l with
 | nil => right; exact ⟨sz_noE, rfl⟩
 | cons x l => left; simp [hdE, sizeL]
theorem sees_len' {s : RS} {p : ByteArray} (h : s.sees 0 p = true) : 1 ≤ s.len := by
 cases hw : s.ws with
 | nil => simp [RS.sees, seesP, hw] at h
 | cons x l => simp [RS.len, hw]
def Md.ext : Md → Nat
 | .loopJ _ e => e.size | .loopF e => e.size | .used _ _ _ l => 1 + sizeL l | .more l => sizeL l | _ => 1
theorem hd_le {l : List Nd} {a b c : Nat} (h : sizeL l + 2 * a ≤ 2 * b + c) (hl : a ≤ b) (hc : 1 ≤ c) : (hdE l).size + 2 * a ≤ 2 * b + c := by
 rcases sz_hd l with h1 | ⟨h1, _⟩ <;> omega
theorem run_size : ∀ (n : Nat) (m : Md) (s : RS), sizeL (run n m s).1 + 2 * (run n m s).2.len ≤ 2 * s.len + m.ext := by
 intro n
 induction n with
 | zero => intro m s; simp [run, sizeL] <;> omega
 | succ n ih =>
   intro m s
   cases m with
   | expr => exact ih _ _
   | joined k =>
     simp only [run]
     have h1 := ih .signed s
     have h2 := run_len n .signed s
     have h3 := hd_le h1 h2 (Nat.le_refl _)
     have h4 := ih (.loopJ k (hdE (run n .signed s).1)) (run n .signed s).2
     simp only [Md.ext] at h3 h4 ⊢
     omega
   | loopJ k e =>
     simp only [run]
     split
     · rename_i t ht
       split
       · have hl : 1 ≤ s.len := by
           cases hw : s.ws with
           | nil => simp [hw, fxP] at ht
           | cons x l => simp [RS.len, hw]
         have h0 := len_skip s
         have h1 := ih (.joined (tight t + 1)) s.skip
         have h2 := run_len n (.joined (tight t + 1)) s.skip
         have h3 := hd_le h1 h2 (Nat.le_refl _)
         have h4 := ih (.loopJ k (mkE 17 0 E0 t E0 [e, hdE (run n (.joined (tight t + 1)) s.skip).1])) (run n (.joined (tight t + 1)) s.skip).2
         simp only [Md.ext, sz_mkE, sz_two] at h3 h4 ⊢
         omega
       · simp only [sz_one, Md.ext]; omega
     · simp only [sz_one, Md.ext]; omega
   | signed =>
     simp only [run]
     split
     · rename_i t ht
       have hl : 1 ≤ s.len := by
         unfold signOf at ht
         split at ht
         · rename_i h; exact sees_len' h
         · split at ht
           · rename_i h; exact sees_len' h
           · split at ht
             · rename_i h; exact sees_len' h
             · cases ht
       have h0 := len_enter s t
       have h1 := ih .signed (s.enter t)
       have h2 := run_len n .signed (s.enter t)
       have h3 := hd_le h1 h2 (Nat.le_refl _)
       have h5 := len_dec (run n .signed (s.enter t)).2
       simp only [sz_one, sz_mkE, Md.ext] at h3 ⊢
       omega
     · exact ih _ _
   | followed =>
     simp only [run]
     have h1 := ih .atom s
     have h2 := run_len n .atom s
     have h3 := hd_le h1 h2 (Nat.le_refl _)
     have h4 := ih (.loopF (hdE (run n .atom s).1)) (run n .atom s).2
     simp only [Md.ext] at h3 h4 ⊢
     omega
   | loopF e =>
     simp only [run]
     have h0 := len_skip s
     have hc := len_class s.skip
     split
     · rename_i h
       have hl := sees_len' h
       have h1 := ih (.used 7 10 E0 [e]) s.skip
       have h2 := run_len n (.used 7 10 E0 [e]) s.skip
       have h3 := hd_le h1 h2 (by simp [Md.ext])
       have h4 := ih (.loopF (hdE (run n (.used 7 10 E0 [e]) s.skip).1)) (run n (.used 7 10 E0 [e]) s.skip).2
       simp only [Md.ext, sz_one] at h3 h4 ⊢
       omega
     · split
       · rename_i h
         have hl := sees_len' h
         have h4 := ih (.loopF (mkE 15 0 E0 E0 s.skip.classV [e])) s.skip.class
         simp only [Md.ext, sz_mkE, sz_one] at h4 ⊢
         omega
       · split
         · rename_i h
           have hl := sees_len' h
           have h4 := ih (.loopF (mkE 16 0 E0 E0 s.skip.classV [e])) s.skip.class
           simp only [Md.ext, sz_mkE, sz_one] at h4 ⊢
           omega
         · simp only [sz_one, Md.ext]; omega
   | used p c ty l =>
     simp only [run]
     have h0 := len_name s
     split
     · rename_i h
       have hl := sees_len' h
       have h1 := ih .args s.name
       simp only [sz_one, sz_mkE, sizeL_append, Md.ext] at h1 ⊢
       omega
     · simp only [sz_one, sz_mkE, Md.ext]; omega
   | args =>
     simp only [run]
     have h0 := len_enter s sOpen
     have h1 := ih .listed (s.enter sOpen)
     have h2 := len_leave (run n .listed (s.enter sOpen)).2 sShut
     simp only [Md.ext] at h1 ⊢
     omega
   | listed =>
     simp only [run]
     split
     · simp [sizeL, Md.ext] <;> omega
     · have h1 := ih .expr s
       have h2 := run_len n .expr s
       have h3 := hd_le h1 h2 (Nat.le_refl _)
       have h4 := ih (.more [hdE (run n .expr s).1]) (run n .expr s).2
       simp only [Md.ext, sz_one] at h3 h4 ⊢
       omega
   | more l =>
     simp only [run]
     split
     · rename_i h
       have hl := sees_len' h
       have h0 := len_skip s
       have h1 := ih .expr s.skip
       have h2 := run_len n .expr s.skip
       have h3 := hd_le h1 h2 (Nat.le_refl _)
       have h4 := ih (.more (l ++ [hdE (run n .expr s.skip).1])) (run n .expr s.skip).2
       simp only [Md.ext, sizeL_append, sz_one] at h3 h4 ⊢
       omega
     · simp only [Md.ext]; omega
   | atom =>
     simp only [run]
     have h0 := len_skip s
     have h1 := len_class s
     have h2 := len_need s.class sCols
     have h3 := len_num s 2147483647
     split
     · simp only [sz_one, sz_mkE, Md.ext, sizeL]; omega
     · simp only [sz_one, sz_mkE, Md.ext, sizeL]; omega
     · have := ih (.used 6 11 E0 []) s; simp only [Md.ext, sizeL] at this ⊢; omega
     · have := ih (.used 9 13 s.classV []) (s.class.need sCols); simp only [Md.ext, sizeL] at this ⊢; omega
     · have := ih .fixed s; simp only [Md.ext] at this ⊢; omega
   | fixed =>
     simp only [run]
     have h0 := len_skip s
     have h1 := len_class s.skip
     have h2 := len_need s.skip sDot
     have h3 := len_enter s sOpen
     have h4 := ih (.used 8 12 E0 []) (s.skip.need sDot)
     have h5 := ih .args s.skip.class
     have h6 := ih .expr (s.enter sOpen)
     have h7 := run_len n .expr (s.enter sOpen)
     have h8 := hd_le h6 h7 (Nat.le_refl _)
     have h9 := len_leave (run n .expr (s.enter sOpen)).2 sShut
     have h10 := len_fail s 3
     simp only [Md.ext, sizeL] at h4 h5 h8
     repeat' split
     all_goals simp only [sz_one, sz_mkE, sz_noE, Md.ext, sizeL]
     all_goals first
       | omega
       | (rename_i h; have hl := sees_len' h; omega)
end
section
open Go.ChangeShapes Go.WideShapes Go.RowKit
abbrev laidL : List (String × DataW Unit) := [("math/bits.deBruijn32tab", Rows.laid_math_bits_deBruijn32tab), ("math/bits.deBruijn64tab", Rows.laid_math_bits_deBruijn64tab), ("internal/strconv.uint64pow10", Rows.laid_internal_strconv_uint64pow10), ("strconv.ErrRange", Rows.laid_strconv_ErrRange), ("strconv.ErrSyntax", Rows.laid_strconv_ErrSyntax)]
theorem g_syn : Tryz.prog.globalNamed "strconv.ErrSyntax" = some 0 := by kernel_rfl
theorem g_ran : Tryz.prog.globalNamed "strconv.ErrRange" = some 1 := by kernel_rfl
theorem g_synT : (Tryz.prog.globals[(0 : Nat)]?).map (·.type) = some 181 := by kernel_rfl
theorem g_ranT : (Tryz.prog.globals[(1 : Nat)]?).map (·.type) = some 181 := by kernel_rfl
theorem vars_of_laid {W : World} (h : laidMetH Tryz.prog laidL W) : Vars W := by
 have h' : laidMet Tryz.prog laidL W := h
 obtain ⟨ps, ⟨g0, t0, cs0, f0, p0, q0, hg0, ht0, hv0, hd0, ⟨g1, t1, cs1, f1, p1, q1, hg1, ht1, hv1, hd1, ⟨g2, t2, cs2, f2, p2, q2, hg2, ht2, hv2, hd2, ⟨g3, t3, cs3, f3, p3, q3, hg3, ht3, hv3, hd3, ⟨g4, t4, cs4, f4, p4, q4, hg4, ht4, hv4, hd4, hq4, e4⟩, e3⟩, e2⟩, e1⟩, e0⟩, hnd, hrows⟩ := h'
 obtain rfl := Option.some.inj (g_ran.symm.trans hg3)
 obtain rfl := Option.some.inj (g_syn.symm.trans hg4)
 obtain rfl := Option.some.inj (g_ranT.symm.trans ht3)
 obtain rfl := Option.some.inj (g_synT.symm.trans ht4)
 obtain ⟨l3⟩ := cs3
 obtain ⟨l4⟩ := cs4
 obtain ⟨_, u3, v3, rfl, _, _⟩ := iface_of_trod Tryz.underlying181 hd3
 obtain ⟨_, u4, v4, rfl, _, _⟩ := iface_of_trod Tryz.underlying181 hd4
 exact ⟨⟨_, by simpa using World.var?_cell g_syn hv4 0, .inr ⟨_, _, rfl⟩⟩, _, by simpa using World.var?_cell g_ran hv3 0, .inr ⟨_, _, rfl⟩⟩
end
section
open Go.ChangeShapes Go.WideShapes Go.RowKit
theorem ownK : ownKnob Tryz.prog.godebug = none := by kernel_rfl
abbrev ranS : ByteArray := { data := #[118, 97, 108, 117, 101, 32, 111, 117, 116, 32, 111, 102, 32, 114, 97, 110, 103, 101] }
abbrev synS : ByteArray := { data := #[105, 110, 118, 97, 108, 105, 100, 32, 115, 121, 110, 116, 97, 120] }
def litV : DataW Unit → Value
 | .lit (.int k n) => .int k n
 | _ => .int .i64 0
def aggV : DataW Unit → Array Value
 | .agg l => (l.map litV).toArray
 | _ => #[]
noncomputable def lowB : Nat := (World.holding Tryz.prog default ⟨#[], #[], []⟩).heap.size
def putC (cs : Array Value) : Obj → Obj
 | .cells _ t frozen => .cells cs t frozen
 | o => o
noncomputable def laidWorld (os : Os) : World :=
 let w0 := World.holding Tryz.prog os ⟨#[.cells #[.string ranS] 218, .cells #[.string synS] 218], #[], []⟩
 { w0 with heap := ((((w0.heap.modify 3 (putC (aggV Rows.laid_math_bits_deBruijn32tab))).modify 4 (putC (aggV Rows.laid_math_bits_deBruijn64tab))).modify 2 (putC (aggV Rows.laid_internal_strconv_uint64pow10))).modify 1 (putC #[.iface 216 (.pointer (some ⟨lowB, 0, none⟩))])).modify 0 (putC #[.iface 216 (.pointer (some ⟨lowB + 1, 0, none⟩))]) }
theorem laidWorld_met (os : Os) (args : Array Value) : laidMetH Tryz.prog laidL ((laidWorld os).forCall (fun _ _ => 0) ⟨#[], args, []⟩).memory := by
 show laidMet Tryz.prog laidL _
 exact laidMet_of_run' 8 (by kernel_rfl) (by kernel_rfl)
end
end Go.Proofs.YtnbfajmdfkgebaaGreatDoor
