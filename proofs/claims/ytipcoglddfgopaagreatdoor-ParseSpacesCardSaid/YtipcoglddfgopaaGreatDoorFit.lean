/- Parts of the proof: Fit. -/
import Derived.Test.YtipcoglddfgopaaGreatDoorP1
import Derived.Test.YtipcoglddfgopaaGreatDoorLex
import Derived.Deep.QuietTactic
import Derived.BigQuiet
import Derived.Deep.RegionWith
import Derived.Laws.StructEq
import Derived.Deep.LoopGhost
import Derived.Test.YtipcoglddfgopaaGreatDoorP16
set_option linter.unusedSimpArgs false
set_option linter.unusedVariables false
namespace Go.Proofs.YtipcoglddfgopaaGreatDoor
open Go.RowKit
def emp (s : ByteArray) : Bool := s.toList.isEmpty
def Nd.kind : Nd → Int
 | .ex k .. => k
 | .st k .. => k
 | _ => 0
def numE (k n : Int) : Bool := if k = 1 then decide (0 ≤ n) else if k = 2 then (decide (n = 0) || decide (n = 1)) else decide (n = 0)
def textE (k : Int) (tx : ByteArray) : Bool := if k = 3 then (decide (tx.size ≤ 1000) && decide (bad tx < 0)) else emp tx
def binB (s : ByteArray) : Bool := s.toList == [43] || (s.toList == [45] || (s.toList == [42] || (s.toList == [47] || (s.toList == [37] || (s.toList == [64] || (s.toList == [60] || (s.toList == [60, 61] || (s.toList == [61, 61] || (s.toList == [33, 61] || (s.toList == [38, 38] || s.toList == [124, 124]))))))))))
def unB (s : ByteArray) : Bool := s.toList == [45] || (s.toList == [33] || s.toList == [35])
def nameE (k : Int) (nm : ByteArray) : Bool := if 6 ≤ k ∧ k ≤ 13 then nameOk nm else if k = 17 then binB nm else if k = 18 then unB nm else emp nm
def typeE (k : Int) (ty : ByteArray) : Bool := if k = 9 ∨ k = 13 ∨ k = 14 ∨ k = 15 ∨ k = 16 then classOk ty else emp ty
def listE (k : Int) (n : Nat) : Bool :=
 if (1 ≤ k ∧ k ≤ 6) ∨ k = 8 ∨ k = 9 then decide (n = 0) else if k = 7 ∨ k = 15 ∨ k = 16 ∨ k = 18 then decide (n = 1) else if k = 17 then decide (n = 2) else if k = 10 then decide (1 ≤ n) else decide (11 ≤ k ∧ k ≤ 14)
def fitE (k n : Int) (tx nm ty : ByteArray) (c : Nat) : Bool := numE k n && (textE k tx && (nameE k nm && (typeE k ty && listE k c)))
def valT (ty : ByteArray) : Bool := ty.toList == [105, 110, 116] || (ty.toList == [98, 111, 111, 108, 101, 97, 110] || (ty.toList == [83, 116, 114, 105, 110, 103] || classOk ty))
def hasSup (l : List Nd) : Bool := l.any fun x => x.kind == 11
def numS (k n : Int) : Bool := if k = 8 then (decide (0 ≤ n) && decide (n ≤ 9999)) else decide (n = 0)
def typeS (k : Int) (ty : ByteArray) : Bool := if k = 1 then valT ty else if k = 10 then classOk ty else emp ty
def nameS (k : Int) (nm : ByteArray) : Bool := if k = 1 ∨ k = 10 then nameOk nm else emp nm
def setB (k : Int) : Bool := decide (6 ≤ k ∧ k ≤ 9)
def calB (k : Int) : Bool := decide (10 ≤ k ∧ k ≤ 14)
def headK (l : List Nd) : Int := match l with | [] => 0 | x :: _ => x.kind
def exprsS (k : Int) (e : List Nd) : Bool :=
 if k = 1 ∨ k = 4 ∨ k = 5 ∨ k = 7 ∨ k = 8 ∨ k = 9 then decide (e.length = 1) else if k = 2 then (decide (e.length = 2) && setB (headK e)) else if k = 3 then (decide (e.length = 1) && calB (headK e))
 else if k = 6 then decide (e.length ≤ 1) else if k = 10 then decide (e.length = 0) else decide (k = 11)
def blocksS (k : Int) (a b c : List Nd) : Bool :=
 !(hasSup a || (hasSup b || hasSup c)) && (if k = 10 then true else if k = 4 then decide (c.length = 0) else if k = 5 then (decide (b.length = 0) && decide (c.length = 0)) else (decide (a.length = 0) && (decide (b.length = 0) && decide (c.length = 0))))
def fitS (k n : Int) (ty nm : ByteArray) (e a b c : List Nd) : Bool := numS k n && (typeS k ty && (nameS k nm && (exprsS k e && blocksS k a b c)))
def fitP (ps : List Prm) : Bool := ps.all fun p => valT p.1 && nameOk p.2
def fitM (s c : Bool) (ty nm : ByteArray) (ps : List Prm) (l : List Nd) : Bool :=
 decide (ps.length ≤ 6) && (fitP ps && (if c then (!s && (emp ty && (emp nm && !hasSup (l.drop 1)))) else ((ty.toList == [118, 111, 105, 100] || valT ty) && (nameOk nm && !hasSup l))))
def fitsB : Nd → Bool
 | .ex k n tx nm ty _ l _ _ => fitE k n tx nm ty l.length
 | .st k n ty nm _ _ _ _ e a b c _ => fitS k n ty nm e a b c
 | .mt s c ty nm _ ps _ l => fitM s c ty nm ps l
 | .fd _ ty nm _ l => valT ty && (nameOk nm && decide (l.length ≤ 1))
 | .cl nm sp _ _ f m => classOk nm && ((emp sp || classOk sp) && (decide (f.length ≤ 30) && decide (m.length ≤ 30)))
end Go.Proofs.YtipcoglddfgopaaGreatDoor
