/- Parts of the proof: Wz. -/
import Derived.Test.YtipcoglddfgopaaGreatDoorSs
import Derived.Test.YtipcoglddfgopaaGreatDoorP5
set_option linter.unusedSimpArgs false
set_option linter.unusedVariables false
namespace Go.Proofs.YtipcoglddfgopaaGreatDoor
open Go.RowKit
def WzT (s : RS) : Prop := s.wc = 0 → s.wa = 0
theorem WzT.skip {s : RS} (h : WzT s) : WzT s.skip := h
theorem WzT.fail {s : RS} (h : WzT s) (c : Int) (hc : c ≠ 0 := by decide) : WzT (s.fail c) := by
 unfold RS.fail WzT at *
 split
 · intro e; exact absurd e hc
 · rename_i hn; intro e; exact absurd e hn
theorem WzT.take {s : RS} (h : WzT s) (p : ByteArray) : WzT (s.take p) := by
 unfold RS.take; split
 · exact h.skip
 · exact h
theorem WzT.need {s : RS} (h : WzT s) (p : ByteArray) : WzT (s.need p) := by
 unfold RS.need; split
 · exact h.skip
 · exact h.fail _
theorem WzT.inc {s : RS} (h : WzT s) : WzT s.inc := h
theorem WzT.dec {s : RS} (h : WzT s) : WzT s.dec := h
theorem WzT.enter {s : RS} (h : WzT s) (p : ByteArray) : WzT (s.enter p) := by
 unfold RS.enter
 refine WzT.inc (WzT.need ?_ _)
 split
 · exact h.fail _
 · exact h
theorem WzT.leave {s : RS} (h : WzT s) (p : ByteArray) : WzT (s.leave p) := (h.need p).dec
theorem WzT.called {s : RS} (h : WzT s) (t : ByteArray) (is : Bool) : WzT (s.called t is) := by
 unfold RS.called
 split
 · split
   · exact h.fail _
   · exact h.skip
 · exact h.fail _
theorem WzT.byO {s : RS} (h : WzT s) (o : Option ByteArray) : WzT (s.byO o) := by
 unfold RS.byO; split
 · exact h.called _ _
 · exact h.called _ _
theorem WzT.name {s : RS} (h : WzT s) : WzT s.name := h.byO _
theorem WzT.class {s : RS} (h : WzT s) : WzT s.class := h.byO _
theorem WzT.typ {s : RS} (h : WzT s) : WzT s.typ := by
 unfold RS.typ
 repeat' split
 all_goals first | exact h.skip | exact h.class
theorem WzT.num {s : RS} (h : WzT s) (m : Int) : WzT (s.num m) := by
 unfold RS.num RS.numT
 repeat' split
 all_goals first | exact h.skip | exact h.fail _
theorem WzT.late {s : RS} (h : WzT s) (a : Int) : WzT (s.lateN a) := by
 unfold RS.lateN; split
 · exact h
 · exact h
theorem rd_wz : ∀ (n : Nat) (m : Md) (s : RS), WzT s → WzT (run n m s).2 := by
 intro n
 induction n with
 | zero => intro m s h; exact h
 | succ n ih =>
   intro m s h
   cases m
   all_goals
     simp only [run]
     repeat' split
     all_goals (try dsimp only)
     all_goals repeat (first | exact h | with_reducible apply ih | with_reducible apply WzT.skip | with_reducible apply WzT.need | with_reducible apply WzT.enter | with_reducible apply WzT.leave | with_reducible apply WzT.dec | with_reducible apply WzT.class | with_reducible apply WzT.name | with_reducible apply WzT.num | with_reducible refine WzT.fail ?_ _)
theorem ex_wz {s : RS} (h : WzT s) : WzT (ex s).2 := rd_wz _ _ _ h
theorem ar_wz {s : RS} (h : WzT s) : WzT (ar s).2 := rd_wz _ _ _ h
theorem finE_wz {s : RS} (h : WzT s) : WzT (finE s).2 := (ex_wz h).need _
theorem valE_wz {s : RS} (h : WzT s) : WzT (valE s).2 := finE_wz (h.need _)
theorem cond_wz {s : RS} (h : WzT s) : WzT (cond s).2 := (ex_wz (h.need _)).need _
section
variable {b : Rb} (hb : ∀ s, WzT s → WzT (b s).2)
include hb
theorem choS_wz {s : RS} (h : WzT s) : WzT (choS b s).2 := by
 have h1 := hb _ (cond_wz h)
 unfold choS; split
 · exact hb _ h1.skip
 · exact h1
theorem whlS_wz {s : RS} (h : WzT s) : WzT (whlS b s).2 := hb _ (cond_wz h)
theorem at3_wz {s : RS} (h : WzT s) : WzT (at3 b s) := by
 unfold at3 at2 at1
 exact (((hb _ h).need kCatch).need sOpen).class.name.need sShut
theorem attS_wz {s : RS} (h : WzT s) : WzT (attS b s).2 := by
 have h1 := hb _ (at3_wz hb h)
 unfold attS; split
 · exact hb _ h1.skip
 · exact h1
theorem stS_wz {s : RS} (h : WzT s) : WzT (stS b s).2 := by
 have k := h.skip
 have e1 : WzT (varS s).2 := valE_wz h.typ.name
 have e2 : WzT (supS s).2 := (ar_wz k).need _
 have e3 : WzT (resS s.skip).2 := by
   unfold resS; split
   · exact k.skip
   · exact finE_wz k
 have e4 : WzT (plaS s).2 := by
   unfold plaS; split
   · exact finE_wz (ex_wz h).skip
   · exact (ex_wz h).need _
 have e5 := choS_wz hb k
 have e6 := whlS_wz hb k
 have e7 := attS_wz hb k
 have e8 := finE_wz k
 have e9 := finE_wz (k.num 9999)
 unfold stS
 repeat' split
 all_goals (try dsimp only)
 all_goals with_reducible first | exact e1 | exact e5 | exact e6 | exact e3 | exact e8 | exact e9 | exact e7 | exact e2 | exact e4
end
theorem runS_wz : ∀ (n : Nat) (m : Ms) (s : RS), WzT s → WzT (runS n m s).2 := by
 intro n
 induction n with
 | zero => intro m s h; exact h
 | succ n ih =>
   intro m s h
   cases m with
   | body c => exact (ih _ _ (h.enter sBra)).leave sKet
   | loop c l =>
     have hs := stS_wz (b := runS n (.body false)) (fun s h => ih _ s h) h
     simp only [runS]
     split
     · refine ih _ _ ?_
       split
       · exact hs
       · exact hs.late _
     · exact h
theorem bd_wz (c : Bool) {s : RS} (h : WzT s) : WzT (bd c s).2 := runS_wz _ _ _ h
theorem parV_wz {s : RS} (h : WzT s) : WzT (parV s).2 := h.typ.name
theorem moreP_wz : ∀ (n : Nat) (l : List Pm) (s : RS), WzT s → WzT (moreP n l s).2 := by
 intro n
 induction n with
 | zero => intro l s h; exact h
 | succ n ih =>
   intro l s h
   simp only [moreP]
   split
   · exact ih _ _ (parV_wz h.skip)
   · exact h
theorem lstP_wz {s : RS} (h : WzT s) : WzT (lstP s).2 := by
 unfold lstP; split
 · exact h
 · exact moreP_wz _ _ _ (parV_wz h)
theorem parP_wz {s : RS} (h : WzT s) : WzT (parP s).2 := (lstP_wz (h.need sOpen)).need sShut
theorem metM_wz (st : Bool) (ty nm : ByteArray) {s : RS} (h : WzT s) : WzT (metM st ty nm s).2 := bd_wz _ (parP_wz h)
theorem fldM_wz (st : Bool) (ty nm : ByteArray) {s : RS} (h : WzT s) : WzT (fldM st ty nm s).2 := by
 unfold fldM; split
 · exact (ex_wz h.skip).need _
 · exact h.need _
theorem ctoM_wz {s : RS} (h : WzT s) : WzT (ctoM s).2 := bd_wz _ (parP_wz h.skip)
theorem memM_wz (own : ByteArray) {s : RS} (h : WzT s) : WzT (memM own s).2 := by
 have h0 := h.take kStatic
 unfold memM
 repeat' split
 · exact ctoM_wz h0
 · exact metM_wz _ _ _ h0.skip.name
 · exact metM_wz _ _ _ h0.typ.name
 · exact fldM_wz _ _ _ h0.typ.name
theorem loopC_wz : ∀ (n : Nat) (own : ByteArray) (f g : List Nd) (s : RS), WzT s → WzT (loopC n own f g s).2 := by
 intro n
 induction n with
 | zero => intro own f g s h; exact h
 | succ n ih =>
   intro own f g s h
   have := memM_wz own h
   simp only [loopC]
   repeat' split
   · exact ih _ _ _ _ this
   · exact ih _ _ _ _ this
   · exact h
theorem kl3_wz {s : RS} (h : WzT s) : WzT (kl3 s) := by
 have h1 : WzT (kl1 s) := (h.need kClass).class
 have h2 : WzT (kl2 s) := by unfold kl2; split; exact h1.skip.class; exact h1
 exact h2.need sBra
theorem clsC_wz {s : RS} (h : WzT s) : WzT (clsC s).2 := (loopC_wz _ _ _ _ _ (kl3_wz h)).need sKet
theorem loopG_wz : ∀ (n : Nat) (l : List Nd) (s : RS), WzT s → WzT (loopG n l s).2 := by
 intro n
 induction n with
 | zero => intro l s h; exact h
 | succ n ih =>
   intro l s h
   simp only [loopG]
   split
   · exact h
   · exact ih _ _ (clsC_wz h)
theorem prg_wz {s : RS} (h : WzT s) : WzT (prg s).2 := loopG_wz _ _ _ h
theorem wz0 (s : ByteArray) : WzT (RS0 s) := by
 intro h
 have h' : allE s = 0 := h
 show allA s = 0
 unfold allE at h'
 unfold allA
 split at h'
 · exact absurd h' (by decide)
 · split at h'
   · exact absurd h' (by decide)
   · rename_i h1 h2; simp [h1, h2]
end Go.Proofs.YtipcoglddfgopaaGreatDoor
