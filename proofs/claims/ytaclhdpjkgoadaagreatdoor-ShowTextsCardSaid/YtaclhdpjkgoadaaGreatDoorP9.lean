/- Parts of the proof: Ex, ExA, ExB, ExC, ExF, ExD. -/
import Derived.Test.YtaclhdpjkgoadaaGreatDoorP8
import Derived.Test.YtaclhdpjkgoadaaGreatDoorP6
import Derived.Lib.ParseIntB
set_option maxHeartbeats 4000000
set_option maxRecDepth 100000
namespace Go.Proofs.YtaclhdpjkgoadaaGreatDoor
set_option linter.unusedSimpArgs false
set_option linter.unusedVariables false
section
open Go.RowKit
def bs (l : List UInt8) : ByteArray := ⟨l.toArray⟩
def mkE (k n : Int) (tx nm ty : ByteArray) (l : List Nd) : Nd := .ex k n tx nm ty (.slice none 0 0) l ⟨#[]⟩ 0
def noE : Nd := mkE 0 0 ⟨#[]⟩ ⟨#[]⟩ ⟨#[]⟩ []
def hdE (l : List Nd) : Nd := l.headD noE
def fxP : Option Pl → Option ByteArray
 | some (.fx t, _) => some t
 | _ => none
def tightL (l : List UInt8) : Int :=
 if l = [124, 124] then 1 else if l = [38, 38] then 2 else if l = [61, 61] ∨ l = [33, 61] then 3 else if l = [60] ∨ l = [60, 61] then 4 else if l = [43] ∨ l = [45] then 5 else if l = [42] ∨ l = [47] ∨ l = [37] ∨ l = [64] then 6 else 0
def tight (t : ByteArray) : Int := tightL t.toList
def numO (t : ByteArray) : Option Int := match Lib.parseIntB 32 t.data.toList with
 | .ok v => some v
 | _ => none
def RS.numT (s : RS) (most : Int) (t : ByteArray) : RS := match numO t with
 | some v => if v ≤ most then s.skip else s.fail 5
 | none => s.fail 5
def RS.numV (most : Int) (t : ByteArray) : Int := match numO t with
 | some v => if v ≤ most then v else 0
 | none => 0
def nuP : Option Pl → Option ByteArray
 | some (.nu t, _) => some t
 | _ => none
def RS.num (s : RS) (most : Int) : RS := match nuP s.ws[0]? with | some t => s.numT most t | none => s.fail 3
def RS.numR (s : RS) (most : Int) : Int := match nuP s.ws[0]? with | some t => RS.numV most t | none => 0
inductive Md where
 | expr | joined (k : Int) | loopJ (k : Int) (e : Nd) | signed | followed | loopF (e : Nd) | atom | used (p c : Int) (ty : ByteArray) (l : List Nd) | args | listed | more (l : List Nd) | fixed
def sMinus : ByteArray := ⟨#[45]⟩
def sNot : ByteArray := ⟨#[33]⟩
def sLen : ByteArray := ⟨#[35]⟩
def sDot : ByteArray := ⟨#[46]⟩
def sAs : ByteArray := ⟨#[97, 115]⟩
def sIs : ByteArray := ⟨#[105, 115]⟩
def sOpen : ByteArray := ⟨#[40]⟩
def sShut : ByteArray := ⟨#[41]⟩
def sComma : ByteArray := ⟨#[44]⟩
def sCols : ByteArray := ⟨#[58, 58]⟩
def sTrue : ByteArray := ⟨#[116, 114, 117, 101]⟩
def sFalse : ByteArray := ⟨#[102, 97, 108, 115, 101]⟩
def sNull : ByteArray := ⟨#[110, 117, 108, 108]⟩
def sThis : ByteArray := ⟨#[116, 104, 105, 115]⟩
def sSuper : ByteArray := ⟨#[115, 117, 112, 101, 114]⟩
def sNew : ByteArray := ⟨#[110, 101, 119]⟩
def signOf (s : RS) : Option ByteArray := if s.sees 0 sMinus = true then some sMinus else if s.sees 0 sNot = true then some sNot else if s.sees 0 sLen = true then some sLen else none
def E0 : ByteArray := ⟨#[]⟩
def run : Nat → Md → RS → List Nd × RS
 | 0, _, s => ([], s)
 | n + 1, .expr, s => run n (.joined 1) s
 | n + 1, .joined k, s => let r := run n .signed s; run n (.loopJ k (hdE r.1)) r.2
 | n + 1, .loopJ k e, s => match fxP s.ws[0]? with
   | some t => if k ≤ tight t then let r := run n (.joined (tight t + 1)) s.skip; run n (.loopJ k (mkE 17 0 E0 t E0 [e, hdE r.1])) r.2 else ([e], s)
   | none => ([e], s)
 | n + 1, .signed, s => match signOf s with
   | some t => let r := run n .signed (s.enter t); ([mkE 18 0 E0 t E0 [hdE r.1]], r.2.dec)
   | none => run n .followed s
 | n + 1, .followed, s => let r := run n .atom s; run n (.loopF (hdE r.1)) r.2
 | n + 1, .loopF e, s =>
   if s.sees 0 sDot = true then let r := run n (.used 7 10 E0 [e]) s.skip; run n (.loopF (hdE r.1)) r.2
   else if s.sees 0 sAs = true then run n (.loopF (mkE 15 0 E0 E0 s.skip.classV [e])) s.skip.class
   else if s.sees 0 sIs = true then run n (.loopF (mkE 16 0 E0 E0 s.skip.classV [e])) s.skip.class
   else ([e], s)
 | n + 1, .used p c ty l, s => let s1 := s.name; if s1.sees 0 sOpen = true then let r := run n .args s1; ([mkE c 0 E0 s.nameV ty (l ++ r.1)], r.2) else ([mkE p 0 E0 s.nameV ty l], s1)
 | n + 1, .args, s => let r := run n .listed (s.enter sOpen); (r.1, r.2.leave sShut)
 | n + 1, .listed, s => if s.sees 0 sShut = true then ([], s) else let r := run n .expr s; run n (.more [hdE r.1]) r.2
 | n + 1, .more l, s => if s.sees 0 sComma = true then let r := run n .expr s.skip; run n (.more (l ++ [hdE r.1])) r.2 else (l, s)
 | n + 1, .atom, s => match s.ws[0]? with
   | some (Pr.nu _, _) => ([mkE 1 (s.numR 2147483647) E0 E0 E0 []], s.num 2147483647)
   | some (Pr.qu t, _) => ([mkE 3 0 t E0 E0 []], s.skip)
   | some (Pr.nm _, _) => run n (.used 6 11 E0 []) s
   | some (Pr.cl _, _) => run n (.used 9 13 s.classV []) (s.class.need sCols)
   | _ => run n .fixed s
 | n + 1, .fixed, s =>
   if s.sees 0 sTrue = true then ([mkE 2 1 E0 E0 E0 []], s.skip) else if s.sees 0 sFalse = true then ([mkE 2 0 E0 E0 E0 []], s.skip) else if s.sees 0 sNull = true then ([mkE 4 0 E0 E0 E0 []], s.skip) else if s.sees 0 sThis = true then ([mkE 5 0 E0 E0 E0 []], s.skip)
   else if s.sees 0 sSuper = true then run n (.used 8 12 E0 []) (s.skip.need sDot)
   else if s.sees 0 sNew = true then let r := run n .args s.skip.class; ([mkE 14 0 E0 E0 s.skip.classV r.1], r.2)
   else if s.sees 0 sOpen = true then let r := run n .expr (s.enter sOpen); ([hdE r.1], r.2.leave sShut)
   else ([noE], s.fail 3)
def RS.len (s : RS) : Nat := s.ws.length
theorem len_skip (s : RS) : s.skip.len ≤ s.len - 1 := by simp [RS.len, RS.skip]
theorem len_fail (s : RS) (k : Int) : (s.fail k).len = 0 := by unfold RS.fail RS.len; split <;> rfl
theorem len_need (s : RS) (p : ByteArray) : (s.need p).len ≤ s.len - 1 := by
 unfold RS.need; split
 · exact len_skip s
 · rw [len_fail]; omega
theorem len_inc (s : RS) : s.inc.len = s.len := rfl
theorem len_dec (s : RS) : s.dec.len = s.len := rfl
theorem len_enter (s : RS) (p : ByteArray) : (s.enter p).len ≤ s.len - 1 := by
 unfold RS.enter
 rw [len_inc]
 refine Nat.le_trans (len_need _ _) ?_
 split
 · rw [len_fail]; omega
 · exact Nat.le_refl _
theorem len_leave (s : RS) (p : ByteArray) : (s.leave p).len ≤ s.len - 1 := by unfold RS.leave; rw [len_dec]; exact len_need s p
theorem len_called (s : RS) (t : ByteArray) (is : Bool) : (s.called t is).len ≤ s.len - 1 := by
 unfold RS.called
 split
 · split
   · rw [len_fail]; omega
   · exact len_skip s
 · rw [len_fail]; omega
theorem len_name (s : RS) : s.name.len ≤ s.len - 1 := by unfold RS.name RS.byO; split <;> exact len_called _ _ _
theorem len_class (s : RS) : s.class.len ≤ s.len - 1 := by unfold RS.class RS.byO; split <;> exact len_called _ _ _
theorem len_num (s : RS) (m : Int) : (s.num m).len ≤ s.len - 1 := by
 unfold RS.num RS.numT
 repeat' split
 all_goals first | exact len_skip s | (rw [len_fail]; omega)
theorem run_len : ∀ (n : Nat) (m : Md) (s : RS), (run n m s).2.len ≤ s.len := by
 intro n
 induction n with
 | zero => intro m s; exact Nat.le_refl _
 | succ n ih =>
   intro m s
   cases m with
   | expr => exact ih _ _
   | joined k => exact Nat.le_trans (ih _ _) (ih _ _)
   | loopJ k e =>
     simp only [run]
     split
     · split
       · have := len_skip s; exact Nat.le_trans (ih _ _) (Nat.le_trans (ih _ _) (by omega))
       · exact Nat.le_refl _
     · exact Nat.le_refl _
   | signed =>
     simp only [run]
     split
     · rename_i t _
       rw [len_dec]; have := len_enter s t; exact Nat.le_trans (ih _ _) (by omega)
     · exact ih _ _
   | followed => exact Nat.le_trans (ih _ _) (ih _ _)
   | loopF e =>
     simp only [run]
     have h1 := len_skip s
     have h2 := len_class s.skip
     split
     · exact Nat.le_trans (ih _ _) (Nat.le_trans (ih _ _) (by omega))
     · split
       · exact Nat.le_trans (ih _ _) (by omega)
       · split
         · exact Nat.le_trans (ih _ _) (by omega)
         · exact Nat.le_refl _
   | used p c ty l =>
     simp only [run]
     have h1 := len_name s
     split
     · exact Nat.le_trans (ih _ _) (by omega)
     · show s.name.len ≤ _; omega
   | args =>
     simp only [run]
     have h1 := len_enter s sOpen
     have h2 := ih .listed (s.enter sOpen)
     have h3 := len_leave (run n .listed (s.enter sOpen)).2 sShut
     omega
   | listed =>
     simp only [run]
     split
     · exact Nat.le_refl _
     · exact Nat.le_trans (ih _ _) (ih _ _)
   | more l =>
     simp only [run]
     have h1 := len_skip s
     split
     · exact Nat.le_trans (ih _ _) (Nat.le_trans (ih _ _) (by omega))
     · exact Nat.le_refl _
   | atom =>
     simp only [run]
     have h1 := len_skip s
     have h2 := len_class s
     have h3 := len_need s.class sCols
     have h4 := len_num s 2147483647
     split
     · show (s.num 2147483647).len ≤ _; omega
     · show s.skip.len ≤ _; omega
     · exact ih _ _
     · exact Nat.le_trans (ih _ _) (by omega)
     · exact ih _ _
   | fixed =>
     simp only [run]
     have h1 := len_skip s
     have h2 := len_class s.skip
     have h3 := len_need s.skip sDot
     have h4 := len_enter s sOpen
     repeat' split
     all_goals first
       | (show s.skip.len ≤ _; omega)
       | exact Nat.le_trans (ih _ _) (by omega)
       | (have h5 := ih .expr (s.enter sOpen); have h6 := len_leave (run n .expr (s.enter sOpen)).2 sShut; show (RS.leave _ _).len ≤ _; omega)
       | (show (s.fail 3).len ≤ _; rw [len_fail]; omega)
def Md.rank : Md → Nat
 | .expr => 9 | .joined _ => 8 | .loopJ .. => 1 | .signed => 6 | .followed => 5 | .loopF _ => 1 | .atom => 3 | .used .. => 1 | .args => 12 | .listed => 10 | .more _ => 1 | .fixed => 2
def enough (n : Nat) (m : Md) (s : RS) : Prop := 14 * s.len + m.rank ≤ n
end
section
open Go.RowKit
theorem tight_0 (w : World) (s : ByteArray) (h0 : (s.toList == [124, 124]) = true) : Calls Tryz.prog 42 #[.string s] w fun e w' => e = .returned (.int .i64 1) ∧ w = w' := by
 go_enter Tryz.func42, Tryz.ntmps42
 go_wp2
 go_ret
 exact ⟨rfl, rfl⟩
theorem tight_1 (w : World) (s : ByteArray) (h0 : (s.toList == [124, 124]) = false) (h1 : (s.toList == [38, 38]) = true) : Calls Tryz.prog 42 #[.string s] w fun e w' => e = .returned (.int .i64 2) ∧ w = w' := by
 go_enter Tryz.func42, Tryz.ntmps42
 go_wp2
 go_ret
 exact ⟨rfl, rfl⟩
theorem tight_2 (w : World) (s : ByteArray) (h0 : (s.toList == [124, 124]) = false) (h1 : (s.toList == [38, 38]) = false) (h2 : (s.toList == [61, 61]) = true) : Calls Tryz.prog 42 #[.string s] w fun e w' => e = .returned (.int .i64 3) ∧ w = w' := by
 go_enter Tryz.func42, Tryz.ntmps42
 go_wp2
 go_ret
 exact ⟨rfl, rfl⟩
theorem tight_3 (w : World) (s : ByteArray) (h0 : (s.toList == [124, 124]) = false) (h1 : (s.toList == [38, 38]) = false) (h2 : (s.toList == [61, 61]) = false) (h3 : (s.toList == [33, 61]) = true) : Calls Tryz.prog 42 #[.string s] w fun e w' => e = .returned (.int .i64 3) ∧ w = w' := by
 go_enter Tryz.func42, Tryz.ntmps42
 go_wp2
 go_ret
 exact ⟨rfl, rfl⟩
theorem tight_4 (w : World) (s : ByteArray) (h0 : (s.toList == [124, 124]) = false) (h1 : (s.toList == [38, 38]) = false) (h2 : (s.toList == [61, 61]) = false) (h3 : (s.toList == [33, 61]) = false) (h4 : (s.toList == [60]) = true) : Calls Tryz.prog 42 #[.string s] w fun e w' => e = .returned (.int .i64 4) ∧ w = w' := by
 go_enter Tryz.func42, Tryz.ntmps42
 go_wp2
 go_ret
 exact ⟨rfl, rfl⟩
theorem tight_5 (w : World) (s : ByteArray) (h0 : (s.toList == [124, 124]) = false) (h1 : (s.toList == [38, 38]) = false) (h2 : (s.toList == [61, 61]) = false) (h3 : (s.toList == [33, 61]) = false) (h4 : (s.toList == [60]) = false) (h5 : (s.toList == [60, 61]) = true) : Calls Tryz.prog 42 #[.string s] w fun e w' => e = .returned (.int .i64 4) ∧ w = w' := by
 go_enter Tryz.func42, Tryz.ntmps42
 go_wp2
 go_ret
 exact ⟨rfl, rfl⟩
theorem tight_6 (w : World) (s : ByteArray) (h0 : (s.toList == [124, 124]) = false) (h1 : (s.toList == [38, 38]) = false) (h2 : (s.toList == [61, 61]) = false) (h3 : (s.toList == [33, 61]) = false) (h4 : (s.toList == [60]) = false) (h5 : (s.toList == [60, 61]) = false) (h6 : (s.toList == [43]) = true) : Calls Tryz.prog 42 #[.string s] w fun e w' => e = .returned (.int .i64 5) ∧ w = w' := by
 go_enter Tryz.func42, Tryz.ntmps42
 go_wp2
 go_ret
 exact ⟨rfl, rfl⟩
theorem tight_7 (w : World) (s : ByteArray) (h0 : (s.toList == [124, 124]) = false) (h1 : (s.toList == [38, 38]) = false) (h2 : (s.toList == [61, 61]) = false) (h3 : (s.toList == [33, 61]) = false) (h4 : (s.toList == [60]) = false) (h5 : (s.toList == [60, 61]) = false) (h6 : (s.toList == [43]) = false) (h7 : (s.toList == [45]) = true) : Calls Tryz.prog 42 #[.string s] w fun e w' => e = .returned (.int .i64 5) ∧ w = w' := by
 go_enter Tryz.func42, Tryz.ntmps42
 go_wp2
 go_ret
 exact ⟨rfl, rfl⟩
theorem tight_8 (w : World) (s : ByteArray) (h0 : (s.toList == [124, 124]) = false) (h1 : (s.toList == [38, 38]) = false) (h2 : (s.toList == [61, 61]) = false) (h3 : (s.toList == [33, 61]) = false) (h4 : (s.toList == [60]) = false) (h5 : (s.toList == [60, 61]) = false) (h6 : (s.toList == [43]) = false) (h7 : (s.toList == [45]) = false) (h8 : (s.toList == [42]) = true) : Calls Tryz.prog 42 #[.string s] w fun e w' => e = .returned (.int .i64 6) ∧ w = w' := by
 go_enter Tryz.func42, Tryz.ntmps42
 go_wp2
 go_ret
 exact ⟨rfl, rfl⟩
theorem tight_9 (w : World) (s : ByteArray) (h0 : (s.toList == [124, 124]) = false) (h1 : (s.toList == [38, 38]) = false) (h2 : (s.toList == [61, 61]) = false) (h3 : (s.toList == [33, 61]) = false) (h4 : (s.toList == [60]) = false) (h5 : (s.toList == [60, 61]) = false) (h6 : (s.toList == [43]) = false) (h7 : (s.toList == [45]) = false) (h8 : (s.toList == [42]) = false) (h9 : (s.toList == [47]) = true) : Calls Tryz.prog 42 #[.string s] w fun e w' => e = .returned (.int .i64 6) ∧ w = w' := by
 go_enter Tryz.func42, Tryz.ntmps42
 go_wp2
 go_ret
 exact ⟨rfl, rfl⟩
theorem tight_10 (w : World) (s : ByteArray) (h0 : (s.toList == [124, 124]) = false) (h1 : (s.toList == [38, 38]) = false) (h2 : (s.toList == [61, 61]) = false) (h3 : (s.toList == [33, 61]) = false) (h4 : (s.toList == [60]) = false) (h5 : (s.toList == [60, 61]) = false) (h6 : (s.toList == [43]) = false) (h7 : (s.toList == [45]) = false) (h8 : (s.toList == [42]) = false) (h9 : (s.toList == [47]) = false) (h10 : (s.toList == [37]) = true) : Calls Tryz.prog 42 #[.string s] w fun e w' => e = .returned (.int .i64 6) ∧ w = w' := by
 go_enter Tryz.func42, Tryz.ntmps42
 go_wp2
 go_ret
 exact ⟨rfl, rfl⟩
theorem tight_11 (w : World) (s : ByteArray) (h0 : (s.toList == [124, 124]) = false) (h1 : (s.toList == [38, 38]) = false) (h2 : (s.toList == [61, 61]) = false) (h3 : (s.toList == [33, 61]) = false) (h4 : (s.toList == [60]) = false) (h5 : (s.toList == [60, 61]) = false) (h6 : (s.toList == [43]) = false) (h7 : (s.toList == [45]) = false) (h8 : (s.toList == [42]) = false) (h9 : (s.toList == [47]) = false) (h10 : (s.toList == [37]) = false) (h11 : (s.toList == [64]) = true) : Calls Tryz.prog 42 #[.string s] w fun e w' => e = .returned (.int .i64 6) ∧ w = w' := by
 go_enter Tryz.func42, Tryz.ntmps42
 go_wp2
 go_ret
 exact ⟨rfl, rfl⟩
theorem tight_12 (w : World) (s : ByteArray) (h0 : (s.toList == [124, 124]) = false) (h1 : (s.toList == [38, 38]) = false) (h2 : (s.toList == [61, 61]) = false) (h3 : (s.toList == [33, 61]) = false) (h4 : (s.toList == [60]) = false) (h5 : (s.toList == [60, 61]) = false) (h6 : (s.toList == [43]) = false) (h7 : (s.toList == [45]) = false) (h8 : (s.toList == [42]) = false) (h9 : (s.toList == [47]) = false) (h10 : (s.toList == [37]) = false) (h11 : (s.toList == [64]) = false) : Calls Tryz.prog 42 #[.string s] w fun e w' => e = .returned (.int .i64 0) ∧ w = w' := by
 go_enter Tryz.func42, Tryz.ntmps42
 go_wp2
 go_ret
 exact ⟨rfl, rfl⟩
theorem tight_any (w : World) (s : ByteArray) : Calls Tryz.prog 42 #[.string s] w fun e w' => e = .returned (.int .i64 (tight s)) ∧ w = w' := by
 cases h0 : (s.toList == [124, 124]) with
 | true =>
   have e : tight s = 1 := by
     have g : s.toList = [124, 124] := by simpa using h0
     unfold tight; rw [g]; rfl
   rw [e]; exact tight_0 w s h0
 | false =>
   cases h1 : (s.toList == [38, 38]) with
   | true =>
     have e : tight s = 2 := by
       have g : s.toList = [38, 38] := by simpa using h1
       unfold tight; rw [g]; rfl
     rw [e]; exact tight_1 w s h0 h1
   | false =>
     cases h2 : (s.toList == [61, 61]) with
     | true =>
       have e : tight s = 3 := by
         have g : s.toList = [61, 61] := by simpa using h2
         unfold tight; rw [g]; rfl
       rw [e]; exact tight_2 w s h0 h1 h2
     | false =>
       cases h3 : (s.toList == [33, 61]) with
       | true =>
         have e : tight s = 3 := by
           have g : s.toList = [33, 61] := by simpa using h3
           unfold tight; rw [g]; rfl
         rw [e]; exact tight_3 w s h0 h1 h2 h3
       | false =>
         cases h4 : (s.toList == [60]) with
         | true =>
           have e : tight s = 4 := by
             have g : s.toList = [60] := by simpa using h4
             unfold tight; rw [g]; rfl
           rw [e]; exact tight_4 w s h0 h1 h2 h3 h4
         | false =>
           cases h5 : (s.toList == [60, 61]) with
           | true =>
             have e : tight s = 4 := by
               have g : s.toList = [60, 61] := by simpa using h5
               unfold tight; rw [g]; rfl
             rw [e]; exact tight_5 w s h0 h1 h2 h3 h4 h5
           | false =>
             cases h6 : (s.toList == [43]) with
             | true =>
               have e : tight s = 5 := by
                 have g : s.toList = [43] := by simpa using h6
                 unfold tight; rw [g]; rfl
               rw [e]; exact tight_6 w s h0 h1 h2 h3 h4 h5 h6
             | false =>
               cases h7 : (s.toList == [45]) with
               | true =>
                 have e : tight s = 5 := by
                   have g : s.toList = [45] := by simpa using h7
                   unfold tight; rw [g]; rfl
                 rw [e]; exact tight_7 w s h0 h1 h2 h3 h4 h5 h6 h7
               | false =>
                 cases h8 : (s.toList == [42]) with
                 | true =>
                   have e : tight s = 6 := by
                     have g : s.toList = [42] := by simpa using h8
                     unfold tight; rw [g]; rfl
                   rw [e]; exact tight_8 w s h0 h1 h2 h3 h4 h5 h6 h7 h8
                 | false =>
                   cases h9 : (s.toList == [47]) with
                   | true =>
                     have e : tight s = 6 := by
                       have g : s.toList = [47] := by simpa using h9
                       unfold tight; rw [g]; rfl
                     rw [e]; exact tight_9 w s h0 h1 h2 h3 h4 h5 h6 h7 h8 h9
                   | false =>
                     cases h10 : (s.toList == [37]) with
                     | true =>
                       have e : tight s = 6 := by
                         have g : s.toList = [37] := by simpa using h10
                         unfold tight; rw [g]; rfl
                       rw [e]; exact tight_10 w s h0 h1 h2 h3 h4 h5 h6 h7 h8 h9 h10
                     | false =>
                       cases h11 : (s.toList == [64]) with
                       | true =>
                         have e : tight s = 6 := by
                           have g : s.toList = [64] := by simpa using h11
                           unfold tight; rw [g]; rfl
                         rw [e]; exact tight_11 w s h0 h1 h2 h3 h4 h5 h6 h7 h8 h9 h10 h11
                       | false =>
                         have e : tight s = 0 := by
                           have g0 : s.toList ≠ [124, 124] := by simpa using h0
                           have g1 : s.toList ≠ [38, 38] := by simpa using h1
                           have g2 : s.toList ≠ [61, 61] := by simpa using h2
                           have g3 : s.toList ≠ [33, 61] := by simpa using h3
                           have g4 : s.toList ≠ [60] := by simpa using h4
                           have g5 : s.toList ≠ [60, 61] := by simpa using h5
                           have g6 : s.toList ≠ [43] := by simpa using h6
                           have g7 : s.toList ≠ [45] := by simpa using h7
                           have g8 : s.toList ≠ [42] := by simpa using h8
                           have g9 : s.toList ≠ [47] := by simpa using h9
                           have g10 : s.toList ≠ [37] := by simpa using h10
                           have g11 : s.toList ≠ [64] := by simpa using h11
                           unfold tight tightL; simp [g0, g1, g2, g3, g4, g5, g6, g7, g8, g9, g10, g11]
                         rw [e]; exact tight_12 w s h0 h1 h2 h3 h4 h5 h6 h7 h8 h9 h10 h11
end
section
open Go.RowKit
def ExK (B : Nat) (r : Option Nat) (w : World) (x y : Nd) : Prop :=
 ∃ (k n : Int) (tx nm ty : ByteArray) (A : Option Addr) (cap : Nat) (l : List Nd), y = .ex k n tx nm ty (.slice A l.length cap) l ⟨#[]⟩ 0 ∧ (tx.size ≤ maxLen ∧ nm.size ≤ maxLen ∧ ty.size ≤ maxLen) ∧
   (∀ ws, (∀ k j u, B ≤ k → some k ≠ r → w.cell? ⟨k, j, none⟩ = some u → ws.cell? ⟨k, j, none⟩ = some u) → Rw ws .ex (.slice A l.length cap) l ∧ KdL ws l) ∧ bareN y = bareN x
theorem ExK.free {B : Nat} {r : Option Nat} {w : World} {x y : Nd} (h : ExK B r w x y) : ExK B none w x y := by
 obtain ⟨k, n, tx, nm, ty, A, cap, l, e, hs, hf, hb⟩ := h
 exact ⟨k, n, tx, nm, ty, A, cap, l, e, hs, fun ws hk => hf ws fun k j u hB _ hu => hk k j u hB (by simp) hu, hb⟩
theorem ExK.mono {B C : Nat} {r : Option Nat} {w : World} {x y : Nd} (h : ExK B r w x y) (hC : C ≤ B) : ExK C r w x y := by
 obtain ⟨k, n, tx, nm, ty, A, cap, l, e, hs, hf, hb⟩ := h
 exact ⟨k, n, tx, nm, ty, A, cap, l, e, hs, fun ws hk => hf ws fun k j u hB hr hu => hk k j u (Nat.le_trans hC hB) hr hu, hb⟩
theorem ExK.next {B : Nat} {r : Option Nat} {w w' : World} {x y : Nd} (h : ExK B r w x y) (hw : ∀ k j u, B ≤ k → some k ≠ r → w.cell? ⟨k, j, none⟩ = some u → w'.cell? ⟨k, j, none⟩ = some u) : ExK B r w' x y := by
 obtain ⟨k, n, tx, nm, ty, A, cap, l, e, hs, hf, hb⟩ := h
 exact ⟨k, n, tx, nm, ty, A, cap, l, e, hs, fun ws hk => hf ws fun k j u hB hr hu => hk k j u hB hr (hw k j u hB hr hu), hb⟩
theorem ExK.grown {B g : Nat} {r : Option Nat} {w w' : World} {x y : Nd} (h : ExK B r w x y) (hg : w.grownBy w' (some g)) (hB : g < B ∨ r = some g) : ExK B r w' x y :=
 h.next fun k j u hk hr hu => (World.cell?_of_block (a := ⟨k, j, none⟩) (hg.block k (World.block_lt_of_cell? w (a := ⟨k, j, none⟩) hu) (by
   intro e
   rcases hB with h | h
   · injection e with e; omega
   · exact hr (e.trans h.symm)))).trans hu
theorem ExK.below {B : Nat} {r : Option Nat} {w w' : World} {x y : Nd} (h : ExK B r w x y) (hb : Below w.heap.size w w') : ExK B r w' x y := h.next fun k j u _ _ hu => Keep.below hb _ _ hu
theorem ExK.excl {B g : Nat} {w w' : World} {x y : Nd} (h : ExK B none w x y) (hb : Below w.heap.size w w') (hg : w.heap.size ≤ g) : ExK B (some g) w' x y := by
 obtain ⟨k, n, tx, nm, ty, A, cap, l, e, hs, hf, hb'⟩ := h
 refine ⟨k, n, tx, nm, ty, A, cap, l, e, hs, fun ws hk => hf ws fun k j u hB _ hu => ?_, hb'⟩
 have hlt := World.block_lt_of_cell? w (a := ⟨k, j, none⟩) hu
 simp only at hlt
 exact hk k j u hB (by simp; omega) (Keep.below hb _ _ hu)
theorem Mv.over {W0 w W1 w2 w3 : World} {c b : Nat} {s : RS} (hW : Below w.heap.size w W1) (h : Mv W0 c s W1 w2) (hg : w2.grownBy w3 (some b)) (hb : w.heap.size ≤ b) (hc : c < w.heap.size) (hle : W0.heap.size ≤ w.heap.size := by assumption) : Mv W0 c s w w3 := by
 obtain ⟨h1, h2, h3, v, hv, hx⟩ := h
 refine ⟨⟨hg.os.trans (h1.os.trans hW.os), hg.tape.trans (h1.tape.trans hW.tape), hg.output.trans (h1.output.trans hW.output), Nat.le_trans hW.size (Nat.le_trans h1.size hg.size), fun k hk hne => ?_⟩, h2.grown hg h2.size (by rintro i ⟨rfl⟩; omega), h3, v, hv, ?_⟩
 · have a1 : k < W1.heap.size := Nat.lt_of_lt_of_le hk hW.size
   exact (hg.block k (Nat.lt_of_lt_of_le a1 h1.size) (by simp; omega)).trans ((h1.block k a1 hne).trans (hW.block k hk))
 · exact (hg.block c hx.lt (by simp; omega)).trans hx
theorem Rd.lt {W0 w : World} {c : Nat} {s : RS} (h : Rd W0 c s w) : c < w.heap.size := by obtain ⟨_, _, v, _, hx⟩ := h; exact hx.lt
theorem Rd.below {W0 w w' : World} {c : Nat} {s : RS} (h : Rd W0 c s w) (hb : Below w.heap.size w w') : Rd W0 c s w' := (Mv.below hb h).2
theorem grown_8 (w : World) (b : Nat) (u0 u1 u2 u3 u4 u5 u6 u7 : Value) : w.grownBy ((((((((w.setCell ⟨b, 0, none⟩ u0).setCell ⟨b, 1, none⟩ u1).setCell ⟨b, 2, none⟩ u2).setCell ⟨b, 3, none⟩ u3).setCell ⟨b, 4, none⟩ u4).setCell ⟨b, 5, none⟩ u5).setCell ⟨b, 6, none⟩ u6).setCell ⟨b, 7, none⟩ u7) (some b) :=
 ((((((((grown_set_at w b 0 u0).trans (grown_set_at _ b 1 u1)).trans (grown_set_at _ b 2 u2)).trans (grown_set_at _ b 3 u3)).trans (grown_set_at _ b 4 u4)).trans (grown_set_at _ b 5 u5)).trans (grown_set_at _ b 6 u6)).trans (grown_set_at _ b 7 u7))
theorem Bx.to_8 {w : World} {b : Nat} {T : TypeId} {x0 x1 x2 x3 x4 x5 x6 x7 : Value} (h : Bx w b #[x0, x1, x2, x3, x4, x5, x6, x7] T) (u0 u1 u2 u3 u4 u5 u6 u7 : Value) : Bx ((((((((w.setCell ⟨b, 0, none⟩ u0).setCell ⟨b, 1, none⟩ u1).setCell ⟨b, 2, none⟩ u2).setCell ⟨b, 3, none⟩ u3).setCell ⟨b, 4, none⟩ u4).setCell ⟨b, 5, none⟩ u5).setCell ⟨b, 6, none⟩ u6).setCell ⟨b, 7, none⟩ u7) b #[u0, u1, u2, u3, u4, u5, u6, u7] T := by
 have := ((((((((h.set 0 u0).set 1 u1).set 2 u2).set 3 u3).set 4 u4).set 5 u5).set 6 u6).set 7 u7)
 simpa using this
theorem Bx.all_8 {w : World} {b : Nat} {T : TypeId} {x0 x1 x2 x3 x4 x5 x6 x7 : Value} (h : Bx w b #[x0, x1, x2, x3, x4, x5, x6, x7] T) : w.cell? ⟨b, 0, none⟩ = some x0 ∧ w.cell? ⟨b, 1, none⟩ = some x1 ∧ w.cell? ⟨b, 2, none⟩ = some x2 ∧ w.cell? ⟨b, 3, none⟩ = some x3 ∧ w.cell? ⟨b, 4, none⟩ = some x4 ∧ w.cell? ⟨b, 5, none⟩ = some x5 ∧ w.cell? ⟨b, 6, none⟩ = some x6 ∧ w.cell? ⟨b, 7, none⟩ = some x7 :=
 ⟨h.cell 0, h.cell 1, h.cell 2, h.cell 3, h.cell 4, h.cell 5, h.cell 6, h.cell 7⟩
def ExC (W0 : World) (c : Nat) (w : World) (r : List Nd × RS) (e : Ending) (w' : World) : Prop := ∃ y, e = .returned (.agg (cellsN y).toArray) ∧ ExK w.heap.size none w' (hdE r.1) y ∧ Mv W0 c r.2 w w'
def Vars (w : World) : Prop := (∃ ev, w.cell? ⟨2, 0, none⟩ = some ev ∧ (ev = .nilIface ∨ ∃ te pe, ev = .iface te pe)) ∧ (∃ ev, w.cell? ⟨3, 0, none⟩ = some ev ∧ (ev = .nilIface ∨ ∃ te pe, ev = .iface te pe))
theorem Vars.keep {w w' : World} (K : Keep w w') (h : Vars w) : Vars w' := by
 obtain ⟨⟨a, h1, h2⟩, b, h3, h4⟩ := h
 exact ⟨⟨a, K _ _ h1, h2⟩, b, K _ _ h3, h4⟩
def SpecJ (n : Nat) : Prop := ∀ (W0 w : World) (c : Nat) (s : RS) (k : Int), Vars W0 → Rd W0 c s w → 1 ≤ k → k ≤ 7 → enough n (.joined k) s → Calls Tryz.prog 28 #[.pointer (some ⟨c, 0, none⟩), .int .i64 k] w (ExC W0 c w (run n (.joined k) s))
def SpecE (n : Nat) : Prop := ∀ (W0 w : World) (c : Nat) (s : RS), Vars W0 → Rd W0 c s w → enough n .expr s → Calls Tryz.prog 14 #[.pointer (some ⟨c, 0, none⟩)] w (ExC W0 c w (run n .expr s))
theorem expr_of (n : Nat) (IH : SpecJ n) : SpecE (n + 1) := by
 intro W0 w c s hv h hn
 obtain ⟨r, hr⟩ : ∃ r, run (n + 1) .expr s = r := ⟨_, rfl⟩
 have hr' : run n (.joined 1) s = r := hr
 have hen : enough n (.joined 1) s := by simp only [enough, Md.rank] at hn ⊢; omega
 have hlt := h.lt
 have hle0 := h.le
 obtain ⟨W1, hW1⟩ : ∃ W1, w.alloc (.cells #[.int .i64 0, .int .i32 0, .string ⟨#[]⟩, .string ⟨#[]⟩, .string ⟨#[]⟩, .slice none 0 0, .string ⟨#[]⟩, .int .i64 0] 26) = W1 := ⟨_, rfl⟩
 have hb : Below w.heap.size w W1 := by rw [← hW1]; exact (Below.refl _ w).alloc (Nat.le_refl _) _
 have hx : Bx W1 w.heap.size #[.int .i64 0, .int .i32 0, .string ⟨#[]⟩, .string ⟨#[]⟩, .string ⟨#[]⟩, .slice none 0 0, .string ⟨#[]⟩, .int .i64 0] 26 := by rw [← hW1]; exact Bx.new _ _ _
 have hz : W1.heap.size = w.heap.size + 1 := by rw [← hW1]; simp
 have HC := Lib.hid (IH W0 W1 c s 1 hv (h.below hb) (by omega) (by omega) hen)
 rw [hr'] at HC
 rw [hr]
 clear hr hr' IH h hn hen hv
 go_enter Tryz.func14, Tryz.ntmps14
 go_wp2_with fail
 clear hW1
 refine HC.out.mono ?_
 clear HC
 rintro e w2 ⟨y, rfl, hk, hm⟩
 obtain ⟨k, m, tx, nm, ty, A, cap, l, rfl, hs, hf, hbb⟩ := hk
 have HK : Hid (ExK W1.heap.size none w2 (hdE r.1) (.ex k m tx nm ty (.slice A l.length cap) l ⟨#[]⟩ 0)) := ⟨k, m, tx, nm, ty, A, cap, l, rfl, hs, hf, hbb⟩
 have hx2 : Bx w2 w.heap.size _ _ := (hm.1.block _ hx.lt (by simp; omega)).trans hx
 obtain ⟨r0, r1, r2, r3, r4, r5, r6, r7⟩ := hx2.all_8
 have g0 := hx2.fro 0; have g1 := hx2.fro 1; have g2 := hx2.fro 2; have g3 := hx2.fro 3; have g4 := hx2.fro 4; have g5 := hx2.fro 5; have g6 := hx2.fro 6; have g7 := hx2.fro 7
 have hg := grown_8 w2 w.heap.size (.int .i64 k) (.int .i32 m) (.string tx) (.string nm) (.string ty) (.slice A l.length cap) (.string ⟨#[]⟩) (.int .i64 0)
 have HM := Lib.hid (Mv.over hb hm hg (Nat.le_refl _) hlt)
 have HK2 := Lib.hid ((HK.out.grown hg (.inl (by omega))).mono (show w.heap.size ≤ W1.heap.size by omega))
 have HX := Lib.hid hx2
 simp only [cellsN]
 clear hf hs hbb hm hx2 hg HK hx hb
 go_wp2_with fail
 obtain ⟨z0, z1, z2, z3, z4, z5, z6, z7⟩ := (HX.out.to_8 (.int .i64 k) (.int .i32 m) (.string tx) (.string nm) (.string ty) (.slice A l.length cap) (.string ⟨#[]⟩) (.int .i64 0)).all_8
 refine bodyPost_ret (v := .agg #[.int .i64 k, .int .i32 m, .string tx, .string nm, .string ty, .slice A l.length cap, .string ⟨#[]⟩, .int .i64 0]) (by simp [results, Tryz.results14, go_sem, z0, z1, z2, z3, z4, z5, z6, z7]) rfl ?_
 exact ⟨_, rfl, HK2.out, HM.out⟩
end
section
open Go.RowKit
theorem Bx.grown {w w' : World} {b c : Nat} {cs : Array Value} {T : TypeId} (h : Bx w b cs T) (hg : w.grownBy w' (some c)) (hne : b ≠ c) : Bx w' b cs T := (hg.block b h.lt (by simpa using hne)).trans h
theorem Rd.few {W0 w : World} {c : Nat} {s : RS} (h : Rd W0 c s w) : s.len ≤ 1000000 := by obtain ⟨_, _, _, hm, _⟩ := h.cells; exact hm.2.2
def lenAt (w : World) (c : Nat) : Nat := match w.cell? ⟨c, 0, none⟩ with | some (.slice _ n _) => n | _ => 0
theorem lenAt_of {W0 w : World} {c : Nat} {s : RS} (h : Rd W0 c s w) : lenAt w c = s.len := by
 obtain ⟨A, cap, _, _, hx⟩ := h.cells
 have := hx.cell 0
 simp only [List.getElem?_toArray, List.getElem?_cons_zero] at this
 unfold lenAt; rw [this]; rfl
theorem EX.tag {y : Nd} (h : EX y) : y.tag = .ex := by obtain ⟨k, n, tx, nm, ty, A, len, cap, l, rfl⟩ := h; rfl
def OwnE (B : Nat) (w : World) (v : Value) (ys : List Nd) : Prop :=
 w.ownsRow B 26 8 v ys.length (ys.flatMap cellsN) ∧ (∀ y ∈ ys, EX y) ∧ KO B v.ownBlock w ys ∧ ys.length ≤ 2000000
theorem OwnE.nil (B : Nat) (w : World) : OwnE B w (.slice none 0 0) [] := ⟨World.ownsRow_nil _ _ _ _, by simp, KO.nil _ _ _, by simp⟩
theorem OwnE.form {B : Nat} {w : World} {v : Value} {ys : List Nd} (h : OwnE B w v ys) : ∃ A cap, v = .slice A ys.length cap := by
 obtain ⟨A, cap, hv, _⟩ := own_form h.1; exact ⟨A, cap, hv⟩
theorem OwnE.fk {B : Nat} {w : World} {v : Value} {ys : List Nd} (h : OwnE B w v ys) : FkL B w .ex v ys := by
 obtain ⟨ho, hx, hk, hm⟩ := h
 have ht : ∀ x ∈ ys, x.tag = .ex := fun x hx' => (hx x hx').tag
 intro ws hs
 refine ⟨?_, hk ws fun k j u hB _ hu => hs k j u hB hu⟩
 obtain ⟨A, cap, rfl, hc⟩ := own_form ho
 refine ⟨A, cap, rfl, ⟨by unfold maxLen; omega, hc⟩, ht, fun hn => ?_⟩
 obtain ⟨g, cap', hv, hg, hl, hat⟩ := own_row ho hn
 injection hv with h1 h2 h3
 refine ⟨g, 0, h1, fun i x hx j u hu => ?_⟩
 have hj : j < Tg.ex.sz := by rw [← ht x (List.mem_of_getElem? hx), ← cells_len]; exact (List.getElem?_eq_some_iff.1 hu).1
 have := (hat (i * Tg.ex.sz + j) u (by rw [flat_get ys i j x ht hx hj]; exact hu)).1
 rw [Nat.zero_add]
 exact hs g _ u hg this
theorem OwnE.node {B : Nat} {w : World} {v : Value} {ys : List Nd} (h : OwnE B w v ys) (k n : Int) (tx nm ty : ByteArray) (hs : tx.size ≤ maxLen ∧ nm.size ≤ maxLen ∧ ty.size ≤ maxLen) {x : Nd} (hx : bareN x = .ex k n tx nm ty (.slice none 0 0) (bareL ys) ⟨#[]⟩ 0) :
   ExK B none w x (.ex k n tx nm ty v ys ⟨#[]⟩ 0) := by
 obtain ⟨A, cap, hv⟩ := h.form
 have hf := h.fk
 subst hv
 exact ⟨k, n, tx, nm, ty, A, cap, ys, rfl, hs, fun ws hk => hf ws fun k j u hB hu => hk k j u hB (by simp) hu, by rw [hx]; rfl⟩
theorem KO.grown {B c : Nat} {r : Option Nat} {w w' : World} {l : List Nd} (h : KO B r w l) (hg : w.grownBy w' (some c)) (hc : c < B) : KO B r w' l :=
 fun ws hs => h ws fun k j u hk hne hu => hs k j u hk hne ((World.cell?_of_block (a := ⟨k, j, none⟩) (hg.block k (World.block_lt_of_cell? w (a := ⟨k, j, none⟩) hu) (by simp; omega))).trans hu)
theorem OwnE.grown {B c : Nat} {w w' : World} {v : Value} {ys : List Nd} (h : OwnE B w v ys) (hg : w.grownBy w' (some c)) (hc : c < B) : OwnE B w' v ys :=
 ⟨h.1.kept hg (by
   cases hv : v.ownBlock with
   | none => exact .inl rfl
   | some g => exact .inr (by have := (h.1.lt g hv).1; simp; omega)), h.2.1, h.2.2.1.grown hg hc, h.2.2.2⟩
theorem OwnE.below {B : Nat} {w w' : World} {v : Value} {ys : List Nd} (h : OwnE B w v ys) (hb : Below w.heap.size w w') : OwnE B w' v ys :=
 ⟨own_next h.1 hb, h.2.1, fun ws hs => h.2.2.1 ws fun k j u hk hne hu => hs k j u hk hne (Keep.below hb _ _ hu), h.2.2.2⟩
theorem OwnE.mono {B C : Nat} {w : World} {v : Value} {ys : List Nd} (h : OwnE B w v ys) (hC : C ≤ B) : OwnE C w v ys :=
 ⟨own_base h.1 hC, h.2.1, fun ws hs => h.2.2.1 ws fun k j u hk hne hu => hs k j u (Nat.le_trans hC hk) hne hu, h.2.2.2⟩
theorem OwnE.lt {B : Nat} {w : World} {v : Value} {ys : List Nd} (h : OwnE B w v ys) : ∀ k, v.ownBlock = some k → B ≤ k ∧ k < w.heap.size := h.1.lt
theorem mk_bare {ys xs : List Nd} (h : bareL ys = bareL xs) (k n : Int) (tx nm ty : ByteArray) : bareN (mkE k n tx nm ty xs) = .ex k n tx nm ty (.slice none 0 0) (bareL ys) ⟨#[]⟩ 0 := by simp only [mkE, bareN]; rw [h]
theorem bare_one {y x : Nd} (h : bareN y = bareN x) : bareL [y] = bareL [x] := by simp only [bareL]; rw [h]
theorem Mv.row {W0 w w1 w2 : World} {c : Nat} {s : RS} {v : Value} (h : Mv W0 c s w w1) (hg : w1.grownBy w2 v.ownBlock) (hne : ∀ k, v.ownBlock = some k → k ≠ c) (hB : ∀ k, v.ownBlock = some k → w.heap.size ≤ k) (hc : c < w.heap.size) (hle : W0.heap.size ≤ w.heap.size := by assumption) : Mv W0 c s w w2 := by
 obtain ⟨h1, h2, h3, u, hu, hx⟩ := h
 refine ⟨⟨hg.os.trans h1.os, hg.tape.trans h1.tape, hg.output.trans h1.output, Nat.le_trans h1.size hg.size, fun k hk hkc => ?_⟩, ?_, h3, u, hu, ?_⟩
 · refine (hg.block k (Nat.lt_of_lt_of_le hk h1.size) fun e => ?_).trans (h1.block k hk hkc)
   have := hB k e.symm
   omega
 · have h0 : W0.heap.size ≤ w.heap.size := hle
   exact h2.grown hg h2.size fun k hk => Nat.le_trans h0 (hB k hk)
 · exact (hg.block c hx.lt fun e => hne c e.symm rfl).trans hx
theorem OwnE.after {W0 w w1 w2 w3 : World} {c : Nat} {s s3 : RS} {v : Value} {ys : List Nd} (h1 : Mv W0 c s w w1) (h : OwnE w1.heap.size w2 v ys) (h3 : Mv W0 c s3 w2 w3) (hc : c < w.heap.size) : OwnE w.heap.size w3 v ys :=
 (h.grown h3.1 (Nat.lt_of_lt_of_le hc h1.1.size)).mono h1.1.size
theorem ExK.kd {B : Nat} {r : Option Nat} {w : World} {x y : Nd} (h : ExK B r w x y) : EX y ∧ ∀ ws, (∀ k j u, B ≤ k → some k ≠ r → w.cell? ⟨k, j, none⟩ = some u → ws.cell? ⟨k, j, none⟩ = some u) → Kd ws y := by
 obtain ⟨k, n, tx, nm, ty, A, cap, l, rfl, hs, hf, hb⟩ := h
 refine ⟨⟨k, n, tx, nm, ty, A, l.length, cap, l, rfl⟩, fun ws hk => ?_⟩
 rw [Kd]
 exact ⟨hs, (hf ws hk).1, (hf ws hk).2⟩
theorem OwnE.one {B : Nat} {W : World} {x y : Nd} (h : ExK B none W x y) (hB : B ≤ W.heap.size) : OwnE B (W.alloc (.cells (cellsN y).toArray 26)) (.slice (some ⟨W.heap.size, 0, none⟩) 1 1) [y] := by
 obtain ⟨hex, hk⟩ := h.kd
 have hl := World.ownsRow_lit (base := B) (e := 26) (size := 8) W (cellsN y).toArray 1 hB (by unfold maxLen; omega) (by simp [cells_len, hex.tag, Tg.sz])
 refine ⟨by simpa using hl, by simpa using hex, ?_, by simp⟩
 intro ws hs
 refine ⟨hk ws fun k j u hB' _ hu => hs k j u hB' ?_ (Keep.below ((Below.refl _ W).alloc (Nat.le_refl _) _) _ _ hu), trivial⟩
 have hlt := World.block_lt_of_cell? W (a := ⟨k, j, none⟩) hu
 simp only [Value.ownBlock] at hlt ⊢
 simp; omega
theorem OwnE.app {B B2 : Nat} {w w' : World} {v v2 v' : Value} {xs ys : List Nd} (h : OwnE B w v xs) (h2 : OwnE B2 w v2 ys) (hB : B ≤ B2) (hv : ∀ k, v.ownBlock = some k → k < B2)
   (ho : w'.ownsRow B 26 8 v' (xs.length + ys.length) (xs.flatMap cellsN ++ ys.flatMap cellsN)) (hg : w.grownBy w' v.ownBlock) (hat : v'.ownBlock = v.ownBlock ∨ v'.ownBlock = some w.heap.size) (hm : xs.length + ys.length ≤ 2000000) : OwnE B w' v' (xs ++ ys) := by
 have key : ∀ k j u, some k ≠ v.ownBlock → w.cell? ⟨k, j, none⟩ = some u → w'.cell? ⟨k, j, none⟩ = some u ∧ some k ≠ v'.ownBlock := by
   intro k j u hk hu
   have hlt := World.block_lt_of_cell? w (a := ⟨k, j, none⟩) hu
   simp only at hlt
   refine ⟨(World.cell?_of_block (a := ⟨k, j, none⟩) (hg.block k hlt hk)).trans hu, ?_⟩
   rcases hat with e | e
   · rw [e]; exact hk
   · rw [e]; intro e'; injection e' with e'; omega
 refine ⟨by simpa using ho, fun y hy => ?_, fun ws hs => KdL_append (h.2.2.1 ws fun k j u hk hne hu => ?_) (h2.2.2.1 ws fun k j u hk hne hu => ?_), by simpa using hm⟩
 · rcases List.mem_append.1 hy with hy | hy
   · exact h.2.1 y hy
   · exact h2.2.1 y hy
 · exact hs k j u hk (key k j u hne hu).2 (key k j u hne hu).1
 · have hkv : some k ≠ v.ownBlock := by
     intro e
     have := hv k e.symm
     omega
   exact hs k j u (Nat.le_trans hB hk) (key k j u hkv hu).2 (key k j u hkv hu).1
def wide (m : Md) (s : RS) : Nat := match m with
 | .more l => l.length + s.len
 | .listed | .args => s.len + 1
 | _ => 1
theorem sees_len {s : RS} {p : ByteArray} (h : s.sees 0 p = true) : 1 ≤ s.len := by
 cases hw : s.ws with
 | nil => exact absurd hw (sees_ne h)
 | cons x l => simp [RS.len, hw]
theorem run_wide : ∀ (n : Nat) (m : Md) (s : RS), (run n m s).1.length ≤ wide m s := by
 intro n
 induction n with
 | zero => intro m s; simp [run]
 | succ n ih =>
   intro m s
   cases m with
   | expr => exact ih _ _
   | joined k => exact ih _ _
   | loopJ k e =>
     simp only [run]
     split
     · split
       · exact ih _ _
       · exact Nat.le_refl _
     · exact Nat.le_refl _
   | signed =>
     simp only [run]
     split
     · exact Nat.le_refl _
     · exact ih _ _
   | followed => exact ih _ _
   | loopF e =>
     simp only [run]
     split
     · exact ih _ _
     · split
       · exact ih _ _
       · split
         · exact ih _ _
         · exact Nat.le_refl _
   | used p c ty l =>
     simp only [run]
     split <;> exact Nat.le_refl _
   | args =>
     simp only [run]
     have h1 := len_enter s sOpen
     have h2 := ih .listed (s.enter sOpen)
     simp only [wide] at h2 ⊢
     omega
   | listed =>
     simp only [run]
     split
     · simp [wide]
     · have h1 := run_len n .expr s
       have h2 := ih (.more [hdE (run n .expr s).1]) (run n .expr s).2
       simp only [wide, List.length_cons, List.length_nil] at h2 ⊢
       omega
   | more l =>
     simp only [run]
     split
     · rename_i hs
       have h0 := sees_len hs
       have h1 := len_skip s
       have h2 := run_len n .expr s.skip
       have h3 := ih (.more (l ++ [hdE (run n .expr s.skip).1])) (run n .expr s.skip).2
       simp only [wide, List.length_append, List.length_cons, List.length_nil] at h3 ⊢
       omega
     · simp [wide]
   | atom =>
     simp only [run]
     repeat' split
     all_goals first | exact ih _ _ | exact Nat.le_refl _
   | fixed =>
     simp only [run]
     repeat' split
     all_goals first | exact ih _ _ | exact Nat.le_refl _
def LsC (W0 : World) (c : Nat) (w : World) (r : List Nd × RS) (e : Ending) (w' : World) : Prop := ∃ v ys, e = .returned v ∧ OwnE w.heap.size w' v ys ∧ bareL ys = bareL r.1 ∧ Mv W0 c r.2 w w'
def SpecS (n : Nat) : Prop := ∀ (W0 w : World) (c : Nat) (s : RS), Vars W0 → Rd W0 c s w → enough n .signed s → Calls Tryz.prog 40 #[.pointer (some ⟨c, 0, none⟩)] w (ExC W0 c w (run n .signed s))
def SpecF (n : Nat) : Prop := ∀ (W0 w : World) (c : Nat) (s : RS), Vars W0 → Rd W0 c s w → enough n .followed s → Calls Tryz.prog 72 #[.pointer (some ⟨c, 0, none⟩)] w (ExC W0 c w (run n .followed s))
def SpecA (n : Nat) : Prop := ∀ (W0 w : World) (c : Nat) (s : RS), Vars W0 → Rd W0 c s w → enough n .atom s → Calls Tryz.prog 118 #[.pointer (some ⟨c, 0, none⟩)] w (ExC W0 c w (run n .atom s))
def SpecX (n : Nat) : Prop := ∀ (W0 w : World) (c : Nat) (s : RS), Vars W0 → Rd W0 c s w → enough n .fixed s → Calls Tryz.prog 150 #[.pointer (some ⟨c, 0, none⟩)] w (ExC W0 c w (run n .fixed s))
def SpecR (n : Nat) : Prop := ∀ (W0 w : World) (c : Nat) (s : RS), Vars W0 → Rd W0 c s w → enough n .args s → Calls Tryz.prog 151 #[.pointer (some ⟨c, 0, none⟩)] w (LsC W0 c w (run n .args s))
def SpecL (n : Nat) : Prop := ∀ (W0 w : World) (c : Nat) (s : RS), Vars W0 → Rd W0 c s w → enough n .listed s → Calls Tryz.prog 172 #[.pointer (some ⟨c, 0, none⟩), .func (.func 14) #[] #[]] w (LsC W0 c w (run n .listed s))
def KR (B : Nat) (r1 r2 : Option Nat) (w : World) (l : List Nd) : Prop :=
 ∀ ws, (∀ k j u, B ≤ k → some k ≠ r1 → some k ≠ r2 → w.cell? ⟨k, j, none⟩ = some u → ws.cell? ⟨k, j, none⟩ = some u) → KdL ws l
def OwnR (B : Nat) (r : Option Nat) (w : World) (v : Value) (ys : List Nd) : Prop :=
 w.ownsRow B 26 8 v ys.length (ys.flatMap cellsN) ∧ (∀ y ∈ ys, EX y) ∧ KR B v.ownBlock r w ys ∧ ys.length ≤ 2000000
theorem OwnR.nil (B : Nat) (r : Option Nat) (w : World) : OwnR B r w (.slice none 0 0) [] := ⟨World.ownsRow_nil _ _ _ _, by simp, fun _ _ => trivial, by simp⟩
theorem OwnR.lt {B : Nat} {r : Option Nat} {w : World} {v : Value} {ys : List Nd} (h : OwnR B r w v ys) : ∀ k, v.ownBlock = some k → B ≤ k ∧ k < w.heap.size := h.1.lt
theorem OwnR.grown {B c : Nat} {r : Option Nat} {w w' : World} {v : Value} {ys : List Nd} (h : OwnR B r w v ys) (hg : w.grownBy w' (some c)) (hc : c < B) : OwnR B r w' v ys :=
 ⟨h.1.kept hg (by
   cases hv : v.ownBlock with
   | none => exact .inl rfl
   | some g => exact .inr (by have := (h.1.lt g hv).1; simp; omega)), h.2.1, fun ws hs => h.2.2.1 ws fun k j u hk n1 n2 hu => hs k j u hk n1 n2 ((World.cell?_of_block (a := ⟨k, j, none⟩) (hg.block k (World.block_lt_of_cell? w (a := ⟨k, j, none⟩) hu) (by simp; omega))).trans hu), h.2.2.2⟩
theorem OwnR.node {B : Nat} {r : Option Nat} {w : World} {v : Value} {ys : List Nd} (h : OwnR B r w v ys) (hr : ∀ g, r = some g → v.ownBlock ≠ some g) (k n : Int) (tx nm ty : ByteArray) (hs : tx.size ≤ maxLen ∧ nm.size ≤ maxLen ∧ ty.size ≤ maxLen) {x : Nd} (hx : bareN x = .ex k n tx nm ty (.slice none 0 0) (bareL ys) ⟨#[]⟩ 0) :
   ExK B r w x (.ex k n tx nm ty v ys ⟨#[]⟩ 0) := by
 obtain ⟨ho, hex, hk, hm⟩ := h
 have ht : ∀ x ∈ ys, x.tag = .ex := fun x hx' => (hex x hx').tag
 obtain ⟨A, cap, rfl, hc⟩ := own_form ho
 refine ⟨k, n, tx, nm, ty, A, cap, ys, rfl, hs, fun ws hws => ⟨⟨A, cap, rfl, ⟨by unfold maxLen; omega, hc⟩, ht, fun hn => ?_⟩, hk ws fun k j u hB n1 n2 hu => hws k j u hB n2 hu⟩, by rw [hx]; rfl⟩
 obtain ⟨g, cap', hv, hg, hl, hat⟩ := own_row ho hn
 injection hv with h1 h2 h3
 refine ⟨g, 0, h1, fun i x hx j u hu => ?_⟩
 have hj : j < Tg.ex.sz := by rw [← ht x (List.mem_of_getElem? hx), ← cells_len]; exact (List.getElem?_eq_some_iff.1 hu).1
 have := (hat (i * Tg.ex.sz + j) u (by rw [flat_get ys i j x ht hx hj]; exact hu)).1
 rw [Nat.zero_add]
 refine hws g _ u hg (fun e => ?_) this
 subst h1
 exact hr g e.symm rfl
theorem OwnR.one {B : Nat} {r : Option Nat} {W : World} {x y : Nd} (h : ExK B r W x y) (hB : B ≤ W.heap.size) : OwnR B r (W.alloc (.cells (cellsN y).toArray 26)) (.slice (some ⟨W.heap.size, 0, none⟩) 1 1) [y] := by
 obtain ⟨hex, hk⟩ := h.kd
 have hl := World.ownsRow_lit (base := B) (e := 26) (size := 8) W (cellsN y).toArray 1 hB (by unfold maxLen; omega) (by simp [cells_len, hex.tag, Tg.sz])
 refine ⟨by simpa using hl, by simpa using hex, ?_, by simp⟩
 intro ws hs
 refine ⟨hk ws fun k j u hB' hr hu => hs k j u hB' ?_ hr (Keep.below ((Below.refl _ W).alloc (Nat.le_refl _) _) _ _ hu), trivial⟩
 have hlt := World.block_lt_of_cell? W (a := ⟨k, j, none⟩) hu
 simp only [Value.ownBlock] at hlt ⊢
 simp; omega
def UsC (W0 : World) (B : Nat) (r : Option Nat) (c : Nat) (w : World) (R : List Nd × RS) (e : Ending) (w' : World) : Prop := ∃ y, e = .returned (.agg (cellsN y).toArray) ∧ ExK B r w' (hdE R.1) y ∧ Mv W0 c R.2 w w'
def SpecU (n : Nat) : Prop := ∀ (W0 w : World) (B : Nat) (r : Option Nat) (c : Nat) (s : RS) (p k : Int) (ty : ByteArray) (v : Value) (xs ys : List Nd), Vars W0 → Rd W0 c s w → enough n (.used p k ty xs) s → OwnR B r w v ys → bareL ys = bareL xs → c < B → B ≤ w.heap.size → (∃ A, v = .slice A ys.length ys.length) → ys.length ≤ 1 → ty.size ≤ maxLen →
 (∀ g, r = some g → g < w.heap.size ∧ v.ownBlock ≠ some g) →
 Calls Tryz.prog 119 #[.pointer (some ⟨c, 0, none⟩), .agg #[.int .i64 0, .int .i32 0, .string ⟨#[]⟩, .string ⟨#[]⟩, .string ty, v, .string ⟨#[]⟩, .int .i64 0], .int .i64 p, .int .i64 k] w (UsC W0 B r c w (run n (.used p k ty xs) s))
end
section
open Go.RowKit
theorem brackets_of (n : Nat) (IH : SpecE n) (W0 w : World) (c : Nat) (s : RS) (hv : Vars W0) (h : Rd W0 c s w) (hen : enough n .expr (s.enter sOpen)) :
   Calls Tryz.prog 171 #[.pointer (some ⟨c, 0, none⟩)] w (ExC W0 c w ([hdE (run n .expr (s.enter sOpen)).1], (run n .expr (s.enter sOpen)).2.leave sShut)) := by
 obtain ⟨r, hr⟩ : ∃ r, run n .expr (s.enter sOpen) = r := ⟨_, rfl⟩
 rw [hr]
 have hlt := h.lt
 have hle0 := h.le
 obtain ⟨W1, hW1⟩ : ∃ W1, w.alloc (.cells #[.int .i64 0, .int .i32 0, .string ⟨#[]⟩, .string ⟨#[]⟩, .string ⟨#[]⟩, .slice none 0 0, .string ⟨#[]⟩, .int .i64 0] 26) = W1 := ⟨_, rfl⟩
 have hb : Below w.heap.size w W1 := by rw [← hW1]; exact (Below.refl _ w).alloc (Nat.le_refl _) _
 have hx : Bx W1 w.heap.size #[.int .i64 0, .int .i32 0, .string ⟨#[]⟩, .string ⟨#[]⟩, .string ⟨#[]⟩, .slice none 0 0, .string ⟨#[]⟩, .int .i64 0] 26 := by rw [← hW1]; exact Bx.new _ _ _
 have hz : W1.heap.size = w.heap.size + 1 := by rw [← hW1]; simp
 have HM0 := Lib.hid (Mv.below hb h)
 have HE := Lib.hid (enter_any W0 W1 c s sOpen HM0.out.2)
 have HX : Hid (∀ w', Rd W0 c (s.enter sOpen) w' → Calls Tryz.prog 14 #[.pointer (some ⟨c, 0, none⟩)] w' (ExC W0 c w' r)) := by
   show ∀ w', _
   intro w' h'; have := IH W0 w' c _ hv h' hen; rw [hr] at this; exact this
 have HV : Hid (∀ w', Rd W0 c r.2 w' → Calls Tryz.prog 164 #[.pointer (some ⟨c, 0, none⟩), .string sShut] w' fun e w'' => e = .returned (.tuple #[]) ∧ Mv W0 c (r.2.leave sShut) w' w'') := by
   show ∀ w', _
   intro w' h'; exact leave_any W0 w' c r.2 sShut h'
 have HX0 := Lib.hid hx
 clear hr hen h IH hv hx hb
 go_enter Tryz.func171, Tryz.ntmps171
 go_wp2_with (go_at_call 71; refine HE.out.mono ?_; clear HE hW1; rintro e w2 ⟨rfl, hm⟩; have HM1 := Lib.hid hm; clear hm)
 refine (HX.out _ HM1.out.2).mono ?_
 clear HX
 rintro e w3 ⟨y, rfl, hk, hm⟩
 have HK := Lib.hid hk
 obtain ⟨k, m, tx, nm, ty, A, cap, l, rfl, hsz, _, hbe⟩ := hk
 have hb1 := HM1.out.1.size
 have hb2 := hm.1.size
 obtain ⟨W4, hW4⟩ : ∃ W4, w3.alloc (.cells #[.int .i64 k, .int .i32 m, .string tx, .string nm, .string ty, .slice A l.length cap, .string ⟨#[]⟩, .int .i64 0] 26) = W4 := ⟨_, rfl⟩
 have hb4 : Below w3.heap.size w3 W4 := by rw [← hW4]; exact (Below.refl _ _).alloc (Nat.le_refl _) _
 have hy4 : Bx W4 w3.heap.size #[.int .i64 k, .int .i32 m, .string tx, .string nm, .string ty, .slice A l.length cap, .string ⟨#[]⟩, .int .i64 0] 26 := by rw [← hW4]; exact Bx.new _ _ _
 have HM4 := Lib.hid (Mv.below hb4 hm.2)
 have HB4 := Lib.hid (Bx.next (Bx.grown (Bx.grown HX0.out HM1.out.1 (by omega)) hm.1 (by omega)) hb4)
 have HK4 := Lib.hid (HK.out.below hb4)
 have HMM := Lib.hid ((HM0.out.trans HM1.out).trans hm)
 have HY4 := Lib.hid hy4
 have hs4 := hb4.size
 subst hW4
 clear hm hbe hb4 hy4
 simp only [cellsN]
 go_wp2_with fail
 refine (HV.out _ HM4.out.2).mono ?_
 clear HV
 rintro e w5 ⟨rfl, hm⟩
 have HM5 := Lib.hid hm
 have hb5 := hm.1.size
 obtain ⟨a0, a1, a2, a3, a4, a5, a6, a7⟩ := (Bx.grown HY4.out hm.1 (by omega)).all_8
 have HB5 := Lib.hid (Bx.grown HB4.out hm.1 (by omega))
 have hx2 := HB5.out
 obtain ⟨r0, r1, r2, r3, r4, r5, r6, r7⟩ := hx2.all_8
 have g0 := hx2.fro 0; have g1 := hx2.fro 1; have g2 := hx2.fro 2; have g3 := hx2.fro 3; have g4 := hx2.fro 4; have g5 := hx2.fro 5; have g6 := hx2.fro 6; have g7 := hx2.fro 7
 have HK5 := Lib.hid (HK4.out.grown hm.1 (.inl (by omega)))
 have HG := Lib.hid (grown_8 w5 w.heap.size (.int .i64 k) (.int .i32 m) (.string tx) (.string nm) (.string ty) (.slice A l.length cap) (.string ⟨#[]⟩) (.int .i64 0))
 clear hx2 hm
 go_wp2_with fail
 obtain ⟨z0, z1, z2, z3, z4, z5, z6, z7⟩ := (HB5.out.to_8 (.int .i64 k) (.int .i32 m) (.string tx) (.string nm) (.string ty) (.slice A l.length cap) (.string ⟨#[]⟩) (.int .i64 0)).all_8
 refine bodyPost_ret (v := .agg #[.int .i64 k, .int .i32 m, .string tx, .string nm, .string ty, .slice A l.length cap, .string ⟨#[]⟩, .int .i64 0]) (by simp [results, Tryz.results171, go_sem, z0, z1, z2, z3, z4, z5, z6, z7]) rfl ?_
 exact ⟨_, rfl, (HK5.out.grown HG.out (.inl (by omega))).mono (by omega), Mv.over (Below.refl _ _) ((HMM.out.trans HM4.out).trans HM5.out) HG.out (Nat.le_refl _) hlt⟩
end
section
open Go.RowKit
theorem args_of (n : Nat) (IH : SpecL n) : SpecR (n + 1) := by
 intro W0 w c s hv h hn
 obtain ⟨r, hr⟩ : ∃ r, run n .listed (s.enter sOpen) = r := ⟨_, rfl⟩
 have hR : run (n + 1) .args s = (r.1, r.2.leave sShut) := by simp only [run, hr]
 have hen : enough n .listed (s.enter sOpen) := by have := len_enter s sOpen; simp only [enough, Md.rank] at hn ⊢; omega
 have hlt := h.lt
 have hle0 := h.le
 have HE := Lib.hid (enter_any W0 w c s sOpen h)
 have HL : Hid (∀ w', Rd W0 c (s.enter sOpen) w' → Calls Tryz.prog 172 #[.pointer (some ⟨c, 0, none⟩), .func (.func 14) #[] #[]] w' (LsC W0 c w' r)) := by
   show ∀ w', _
   intro w' h'; have := IH W0 w' c _ hv h' hen; rw [hr] at this; exact this
 have HV : Hid (∀ w', Rd W0 c r.2 w' → Calls Tryz.prog 164 #[.pointer (some ⟨c, 0, none⟩), .string sShut] w' fun e w'' => e = .returned (.tuple #[]) ∧ Mv W0 c (r.2.leave sShut) w' w'') := by
   show ∀ w', _
   intro w' h'; exact leave_any W0 w' c r.2 sShut h'
 rw [hR]
 clear hr hR hen hn h IH hv
 go_enter Tryz.func151, Tryz.ntmps151
 go_wp2_with (first | (go_at_call 71; refine HE.out.mono ?_; clear HE; rintro e w1 ⟨rfl, hm⟩; have HM1 := Lib.hid hm; clear hm) | (go_at_call 172; refine (HL.out _ HM1.out.2).mono ?_; clear HL; rintro e w2 ⟨v, ys, rfl, ho, hbb, hm⟩; obtain ⟨A, cap, rfl⟩ := ho.form; have HO := Lib.hid ho; have HB := Lib.hid hbb; have HM2 := Lib.hid hm; clear ho hbb hm) | (go_at_call 164; refine (HV.out _ HM2.out.2).mono ?_; clear HV; rintro e w3 ⟨rfl, hm⟩; have HM3 := Lib.hid hm; clear hm))
 go_ret
 exact ⟨_, ys, rfl, OwnE.after HM1.out HO.out HM3.out hlt, HB.out, (HM1.out.trans HM2.out).trans HM3.out⟩
theorem listed_of (n : Nat) (IH : ∀ m, m ≤ n → SpecE m) : SpecL (n + 1) := by
 intro W0 w c s hv h hn
 have hlt := h.lt
 have hle0 := h.le
 have HS := Lib.hid (sees_any W0 w c s sShut h)
 cases hsee : s.sees 0 sShut with
 | true =>
   have hR : run (n + 1) .listed s = ([], s) := by simp only [run, hsee, if_true]
   rw [hsee] at HS
   have HM := Lib.hid (Mv.refl h)
   rw [hR]
   clear hR hsee IH hn h hv
   go_enter Tryz.func172, Tryz.ntmps172
   go_wp2_with (go_at_call 70; refine HS.out.mono ?_; clear HS; rintro e w1 ⟨rfl, rfl⟩)
   go_ret
   exact ⟨_, [], rfl, OwnE.nil _ _, rfl, HM.out⟩
 | false =>
   obtain ⟨r, hr⟩ : ∃ r, run n .expr s = r := ⟨_, rfl⟩
   obtain ⟨R, hR⟩ : ∃ R, run n (.more [hdE r.1]) r.2 = R := ⟨_, rfl⟩
   have hRR : run (n + 1) .listed s = R := by simp only [run, hsee, hr, hR]; simp
   have hE : enough n .expr s := by simp only [enough, Md.rank] at hn ⊢; omega
   have hl1 : r.2.len ≤ s.len := by have := run_len n .expr s; rw [hr] at this; exact this
   have hen : enough n (.more [hdE r.1]) r.2 := by simp only [enough, Md.rank] at hn ⊢; omega
   have hfew := h.few
   have HX := Lib.hid (IH n (Nat.le_refl _) W0 w c s hv h hE)
   rw [hr] at HX
   rw [hsee] at HS
   rw [hRR]
   have HIH := Lib.hid IH
   have HEN := Lib.hid hen
   have HR := Lib.hid hR
   obtain ⟨i0, hi, hz0, hz1, hz2⟩ := info_parts Tryz.infoEx
   clear hr hR hRR hE hen hn h IH hsee
   go_enter Tryz.func172, Tryz.ntmps172
   go_wp2_with (first | (go_at_call 70; refine HS.out.mono ?_; clear HS; rintro e w1 ⟨rfl, rfl⟩) | (go_at_call 14; refine HX.out.mono ?_; clear HX; rintro e w2 ⟨y, rfl, hk, hm⟩; have HK := Lib.hid hk; obtain ⟨k, m, tx, nm, ty, A, cap, l, rfl, _, _, _⟩ := hk; have HM := Lib.hid hm; clear hm; simp only [cellsN]))
   have hB2 := HM.out.1.size
   have HO := Lib.hid (OwnE.one HK.out hB2)
   have HM2 := Lib.hid (HM.out.trans (Mv.below ((Below.refl _ _).alloc (Nat.le_refl _) (.cells (cellsN (.ex k m tx nm ty (.slice A l.length cap) l ⟨#[]⟩ 0)).toArray 26)) HM.out.2))
   have HBR : Hid (bareL [Nd.ex k m tx nm ty (.slice A l.length cap) l ⟨#[]⟩ 0] = bareL [hdE r.1]) := by
     obtain ⟨k', m', tx', nm', ty', A', cap', l', he, _, _, hb⟩ := HK.out
     exact Lib.hid (by simp only [bareL]; rw [hb])
   clear HK HM
   simp only [cellsN] at HO HM2
   go_loopw [5] (fun v5 wr => ∃ (m : Nat) (acc ys : List Nd) (s' : RS), m ≤ n ∧ run m (.more acc) s' = R ∧ enough m (.more acc) s' ∧ OwnE w.heap.size wr v5 ys ∧ bareL ys = bareL acc ∧ ys.length + s'.len ≤ 1000001 ∧ Mv W0 c s' w wr) (fun v5 wr => lenAt wr c)
   case atStart => exact ⟨n, _, _, r.2, Nat.le_refl _, HR.out, HEN.out, HO.out, HBR.out, by simp; omega, HM2.out⟩
   case round =>
     obtain ⟨m, acc, ys, s', hmn, hrun, hen, ho, hbr, hbd, hm⟩ := hrel
     obtain ⟨m, rfl⟩ : ∃ m', m = m' + 1 := ⟨m - 1, by simp only [enough, Md.rank] at hen; omega⟩
     have HT := Lib.hid (take_any W0 wr c s' sComma hm.2)
     have hla := lenAt_of hm.2
     cases hsee : s'.sees 0 sComma with
     | false =>
       have hR : run (m + 1) (.more acc) s' = (acc, s') := by simp only [run, hsee]; simp
       rw [hR] at hrun
       rw [hsee, take_no hsee] at HT
       have HM3 := Lib.hid hm
       have HO3 := Lib.hid ho
       have HB3 := Lib.hid hbr
       subst hrun
       obtain ⟨A3, cap3, rfl⟩ := ho.form
       clear hR hsee hm ho hbr hla hen hbd
       go_wp2_with (go_at_call 58; refine HT.out.mono ?_; clear HT; rintro e w5 ⟨rfl, hm⟩; have HM4 := Lib.hid hm; clear hm)
       go_ret
       exact ⟨_, ys, rfl, HO3.out.grown HM4.out.1 hlt, HB3.out, HM3.out.trans HM4.out⟩
     | true =>
       obtain ⟨q, hq⟩ : ∃ q, run m .expr s'.skip = q := ⟨_, rfl⟩
       have hR : run (m + 1) (.more acc) s' = run m (.more (acc ++ [hdE q.1])) q.2 := by simp only [run, hsee, hq]; simp
       rw [hR] at hrun
       have h1 := sees_len hsee
       have h2 := len_skip s'
       have h3 : q.2.len ≤ s'.skip.len := by have := run_len m .expr s'.skip; rw [hq] at this; exact this
       have hE : enough m .expr s'.skip := by simp only [enough, Md.rank] at hen ⊢; omega
       have hen2 : enough m (.more (acc ++ [hdE q.1])) q.2 := by simp only [enough, Md.rank] at hen ⊢; omega
       rw [hsee, take_yes hsee] at HT
       have HX : Hid (∀ w', Rd W0 c s'.skip w' → Calls Tryz.prog 14 #[.pointer (some ⟨c, 0, none⟩)] w' (ExC W0 c w' q)) := by
         show ∀ w', _
         intro w' h'; have := HIH.out m (by omega) W0 w' c _ hv h' hE; rw [hq] at this; exact this
       have HM3 := Lib.hid hm
       have HO3 := Lib.hid ho
       have HB3 := Lib.hid hbr
       have HRUN := Lib.hid hrun
       have HEN2 := Lib.hid hen2
       obtain ⟨A3, cap3, rfl⟩ := ho.form
       clear hR hsee hm ho hbr hen hE hen2 hrun hq
       go_wp2_with (first | (go_at_call 58; refine HT.out.mono ?_; clear HT; rintro e w5 ⟨rfl, hm⟩; have HM4 := Lib.hid hm; clear hm) | (go_at_call 14; refine (HX.out _ HM4.out.2).mono ?_; clear HX; rintro e w6 ⟨y, rfl, hk, hm⟩; have HK := Lib.hid hk; obtain ⟨k, m', tx, nm, ty, A, cap, l, rfl, _, _, hbe⟩ := hk; have HBE := Lib.hid hbe; clear hbe; have HM5 := Lib.hid hm; clear hm; have HY := Lib.hid (OwnE.one HK.out HM5.out.1.size); have HO5 := Lib.hid (((HO3.out.grown HM4.out.1 hlt).grown HM5.out.1 hlt).below ((Below.refl _ _).alloc (Nat.le_refl _) (.cells (cellsN (.ex k m' tx nm ty (.slice A l.length cap) l ⟨#[]⟩ 0)).toArray 26))); have HMT := Lib.hid (HM3.out.trans (HM4.out.trans (HM5.out.trans (Mv.below ((Below.refl _ _).alloc (Nat.le_refl _) (.cells (cellsN (.ex k m' tx nm ty (.slice A l.length cap) l ⟨#[]⟩ 0)).toArray 26)) HM5.out.2)))); simp only [cellsN] at HY HO5 HMT; simp only [cellsN]) | (at_builtin; refine append_any rfl (.tmp 14) (.tmp 18) 24 rfl w.heap.size 26 i0 _ 8 112 Tryz.underlying24 hi hz0 hz1 hz2 rfl (by decide) _ _ _ rfl HO5.out.1 w5.heap.size _ _ _ rfl HY.out.1 (ex_one HY.out.2.1) ?c3 ?c4 ?c5 ?_))
       case c3 => unfold maxLen; simp; omega
       case c4 => simp; omega
       case c5 => have := HMT.out.1.size; exact this
       · intro v2 w7 hown2 hgrow hat
         have hs5 : w.heap.size ≤ w5.heap.size := Nat.le_trans HM3.out.1.size HM4.out.1.size
         have hvb : ∀ k, (Value.slice A3 ys.length cap3).ownBlock = some k → k < w5.heap.size := fun k hk => Nat.lt_of_lt_of_le (HO3.out.lt k hk).2 HM4.out.1.size
         have HN := Lib.hid (OwnE.app HO5.out HY.out hs5 hvb hown2 hgrow (hat.imp id fun e => by rw [e]; simp) (by simp; omega))
         have HM7 := Lib.hid (Mv.row HMT.out hgrow (fun k hk => Nat.ne_of_gt (Nat.lt_of_lt_of_le hlt (HO3.out.lt k hk).1)) (fun k hk => (HO3.out.lt k hk).1) hlt)
         have HB7 : Hid (bareL (ys ++ [Nd.ex k m' tx nm ty (.slice A l.length cap) l ⟨#[]⟩ 0]) = bareL (acc ++ [hdE q.1])) := by
           show _ = _
           rw [bareL_append, bareL_append, HB3.out]; simp only [bareL]; rw [HBE.out]
         clear hown2 hgrow hat hvb
         go_wp2_with fail
         go_roundw
         case rel => exact ⟨m, _, _, q.2, by omega, HRUN.out, HEN2.out, HN.out, HB7.out, by simp; omega, HM7.out⟩
         case measure => rw [hla, lenAt_of HM7.out.2]; omega
end
end Go.Proofs.YtaclhdpjkgoadaaGreatDoor
