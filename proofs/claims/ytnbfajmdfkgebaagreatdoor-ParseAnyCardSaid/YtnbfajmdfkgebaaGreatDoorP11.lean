/- Parts of the proof: In, InP, AnyF. -/
import Derived.Test.YtnbfajmdfkgebaaGreatDoorP10
import Derived.Test.YtnbfajmdfkgebaaGreatDoorP3
import Derived.Test.YtnbfajmdfkgebaaGreatDoorPgm
import Derived.Test.YtnbfajmdfkgebaaGreatDoorMayP
import Derived.Test.YtnbfajmdfkgebaaGreatDoorP1
import Derived.Test.YtnbfajmdfkgebaaGreatDoorTold6
namespace Go.Proofs.YtnbfajmdfkgebaaGreatDoor
set_option linter.unusedSimpArgs false
set_option linter.unusedVariables false
section
open Go.RowKit
def InT (z : Int) (s : RS) : Prop := 0 ≤ z ∧ s.sz = z ∧ (∀ x ∈ s.ws, 0 ≤ x.2 ∧ x.2 ≤ z) ∧ (0 ≤ s.wa ∧ s.wa ≤ z) ∧ (0 ≤ s.la ∧ s.la ≤ z)
variable {z : Int}
theorem InT.at {s : RS} (h : InT z s) : 0 ≤ s.at ∧ s.at ≤ z := by
 obtain ⟨h0, h1, h2, _⟩ := h
 unfold RS.at
 cases hw : s.ws with
 | nil => simp only [atW]; omega
 | cons x l => exact h2 x (by rw [hw]; exact List.mem_cons_self)
theorem InT.skip {s : RS} (h : InT z s) : InT z s.skip :=
 ⟨h.1, h.2.1, fun x hx => h.2.2.1 x (List.mem_of_mem_drop hx), h.2.2.2⟩
theorem InT.fail {s : RS} (h : InT z s) (c : Int) : InT z (s.fail c) := by
 have ha := h.at
 unfold RS.fail
 split
 · exact ⟨h.1, h.2.1, fun x hx => by simp at hx, ha, h.2.2.2.2⟩
 · exact ⟨h.1, h.2.1, fun x hx => by simp at hx, h.2.2.2⟩
theorem InT.take {s : RS} (h : InT z s) (p : ByteArray) : InT z (s.take p) := by
 unfold RS.take; split
 · exact h.skip
 · exact h
theorem InT.need {s : RS} (h : InT z s) (p : ByteArray) : InT z (s.need p) := by
 unfold RS.need; split
 · exact h.skip
 · exact h.fail _
theorem InT.inc {s : RS} (h : InT z s) : InT z s.inc := h
theorem InT.dec {s : RS} (h : InT z s) : InT z s.dec := h
theorem InT.enter {s : RS} (h : InT z s) (p : ByteArray) : InT z (s.enter p) := by
 unfold RS.enter
 refine InT.inc (InT.need ?_ _)
 split
 · exact h.fail _
 · exact h
theorem InT.leave {s : RS} (h : InT z s) (p : ByteArray) : InT z (s.leave p) := (h.need p).dec
theorem InT.called {s : RS} (h : InT z s) (t : ByteArray) (is : Bool) : InT z (s.called t is) := by
 unfold RS.called
 split
 · split
   · exact h.fail _
   · exact h.skip
 · exact h.fail _
theorem InT.byO {s : RS} (h : InT z s) (o : Option ByteArray) : InT z (s.byO o) := by
 unfold RS.byO; split
 · exact h.called _ _
 · exact h.called _ _
theorem InT.name {s : RS} (h : InT z s) : InT z s.name := h.byO _
theorem InT.class {s : RS} (h : InT z s) : InT z s.class := h.byO _
theorem InT.typ {s : RS} (h : InT z s) : InT z s.typ := by
 unfold RS.typ
 repeat' split
 all_goals first | exact h.skip | exact h.class
theorem InT.num {s : RS} (h : InT z s) (m : Int) : InT z (s.num m) := by
 unfold RS.num RS.numT
 repeat' split
 all_goals first | exact h.skip | exact h.fail _
theorem InT.late {s : RS} (h : InT z s) {a : Int} (h0 : 0 ≤ a) (h1 : a ≤ z) : InT z (s.lateN a) := by
 unfold RS.lateN; split
 · exact ⟨h.1, h.2.1, h.2.2.1, h.2.2.2.1, h0, h1⟩
 · exact h
theorem rd_in : ∀ (n : Nat) (m : Md) (s : RS), InT z s → InT z (run n m s).2 := by
 intro n
 induction n with
 | zero => intro m s h; exact h
 | succ n ih =>
   intro m s h
   cases m
   all_goals
     simp only [run]
     repeat' split
     all_goals (try dsimp only)
     all_goals repeat (first | exact h | with_reducible apply ih | with_reducible apply InT.skip | with_reducible apply InT.need | with_reducible apply InT.enter | with_reducible apply InT.leave | with_reducible apply InT.dec | with_reducible apply InT.class | with_reducible apply InT.name | with_reducible apply InT.num | with_reducible apply InT.fail)
theorem ex_in {s : RS} (h : InT z s) : InT z (ex s).2 := rd_in _ _ _ h
theorem ar_in {s : RS} (h : InT z s) : InT z (ar s).2 := rd_in _ _ _ h
theorem finE_in {s : RS} (h : InT z s) : InT z (finE s).2 := (ex_in h).need _
theorem valE_in {s : RS} (h : InT z s) : InT z (valE s).2 := finE_in (h.need _)
theorem cond_in {s : RS} (h : InT z s) : InT z (cond s).2 := (ex_in (h.need _)).need _
section
variable {b : Rb} (hb : ∀ s, InT z s → InT z (b s).2)
include hb
theorem choS_in {s : RS} (h : InT z s) : InT z (choS b s).2 := by
 have h1 := hb _ (cond_in h)
 unfold choS; split
 · exact hb _ h1.skip
 · exact h1
theorem whlS_in {s : RS} (h : InT z s) : InT z (whlS b s).2 := hb _ (cond_in h)
theorem at3_in {s : RS} (h : InT z s) : InT z (at3 b s) := by
 unfold at3 at2 at1
 exact (((hb _ h).need kCatch).need sOpen).class.name.need sShut
theorem attS_in {s : RS} (h : InT z s) : InT z (attS b s).2 := by
 have h1 := hb _ (at3_in hb h)
 unfold attS; split
 · exact hb _ h1.skip
 · exact h1
theorem stS_in {s : RS} (h : InT z s) : InT z (stS b s).2 := by
 have k := h.skip
 have e1 : InT z (varS s).2 := valE_in h.typ.name
 have e2 : InT z (supS s).2 := (ar_in k).need _
 have e3 : InT z (resS s.skip).2 := by
   unfold resS; split
   · exact k.skip
   · exact finE_in k
 have e4 : InT z (plaS s).2 := by
   unfold plaS; split
   · exact finE_in (ex_in h).skip
   · exact (ex_in h).need _
 have e5 := choS_in hb k
 have e6 := whlS_in hb k
 have e7 := attS_in hb k
 have e8 := finE_in k
 have e9 := finE_in (k.num 9999)
 unfold stS
 repeat' split
 all_goals (try dsimp only)
 all_goals with_reducible first | exact e1 | exact e5 | exact e6 | exact e3 | exact e8 | exact e9 | exact e7 | exact e2 | exact e4
end
theorem runS_in : ∀ (n : Nat) (m : Ms) (s : RS), InT z s → InT z (runS n m s).2 := by
 intro n
 induction n with
 | zero => intro m s h; exact h
 | succ n ih =>
   intro m s h
   cases m with
   | body c => exact (ih _ _ (h.enter sBra)).leave sKet
   | loop c l =>
     have ha := h.at
     have hs := stS_in (b := runS n (.body false)) (fun s h => ih _ s h) h
     simp only [runS]
     split
     · refine ih _ _ ?_
       split
       · exact hs
       · exact hs.late ha.1 ha.2
     · exact h
theorem bd_in (c : Bool) {s : RS} (h : InT z s) : InT z (bd c s).2 := runS_in _ _ _ h
theorem parV_in {s : RS} (h : InT z s) : InT z (parV s).2 := h.typ.name
theorem moreP_in : ∀ (n : Nat) (l : List Pm) (s : RS), InT z s → InT z (moreP n l s).2 := by
 intro n
 induction n with
 | zero => intro l s h; exact h
 | succ n ih =>
   intro l s h
   simp only [moreP]
   split
   · exact ih _ _ (parV_in h.skip)
   · exact h
theorem lstP_in {s : RS} (h : InT z s) : InT z (lstP s).2 := by
 unfold lstP; split
 · exact h
 · exact moreP_in _ _ _ (parV_in h)
theorem parP_in {s : RS} (h : InT z s) : InT z (parP s).2 := (lstP_in (h.need sOpen)).need sShut
theorem metM_in (st : Bool) (ty nm : ByteArray) {s : RS} (h : InT z s) : InT z (metM st ty nm s).2 := bd_in _ (parP_in h)
theorem fldM_in (st : Bool) (ty nm : ByteArray) {s : RS} (h : InT z s) : InT z (fldM st ty nm s).2 := by
 unfold fldM; split
 · exact (ex_in h.skip).need _
 · exact h.need _
theorem ctoM_in {s : RS} (h : InT z s) : InT z (ctoM s).2 := bd_in _ (parP_in h.skip)
theorem memM_in (own : ByteArray) {s : RS} (h : InT z s) : InT z (memM own s).2 := by
 have h0 := h.take kStatic
 unfold memM
 repeat' split
 · exact ctoM_in h0
 · exact metM_in _ _ _ h0.skip.name
 · exact metM_in _ _ _ h0.typ.name
 · exact fldM_in _ _ _ h0.typ.name
theorem loopC_in : ∀ (n : Nat) (own : ByteArray) (f g : List Nd) (s : RS), InT z s → InT z (loopC n own f g s).2 := by
 intro n
 induction n with
 | zero => intro own f g s h; exact h
 | succ n ih =>
   intro own f g s h
   have := memM_in own h
   simp only [loopC]
   repeat' split
   · exact ih _ _ _ _ this
   · exact ih _ _ _ _ this
   · exact h
theorem kl3_in {s : RS} (h : InT z s) : InT z (kl3 s) := by
 have h1 : InT z (kl1 s) := (h.need kClass).class
 have h2 : InT z (kl2 s) := by unfold kl2; split; exact h1.skip.class; exact h1
 exact h2.need sBra
theorem clsC_in {s : RS} (h : InT z s) : InT z (clsC s).2 := (loopC_in _ _ _ _ _ (kl3_in h)).need sKet
theorem loopG_in : ∀ (n : Nat) (l : List Nd) (s : RS), InT z s → InT z (loopG n l s).2 := by
 intro n
 induction n with
 | zero => intro l s h; exact h
 | succ n ih =>
   intro l s h
   simp only [loopG]
   split
   · exact h
   · exact ih _ _ (clsC_in h)
theorem prg_in {s : RS} (h : InT z s) : InT z (prg s).2 := loopG_in _ _ _ h
theorem chain_at (s : ByteArray) : ∀ (l : List Wd) (e : Nat), chain s e l → ∀ x ∈ l, x.a < s.size
 | [], _, _ => fun x hx => by simp at hx
 | y :: t, e, h => fun x hx => by
   rcases List.mem_cons.1 hx with rfl | hx
   · exact h.2.1
   · rcases h.2.2.2.2 with ⟨_, _, h⟩ | ⟨_, _, _, _, h⟩ <;> exact chain_at s t _ h x hx
theorem in0 (s : ByteArray) : InT s.size (RS0 s) := by
 refine ⟨by omega, rfl, fun x hx => ?_, ?_, by simp [RS0]⟩
 · simp only [RS0, List.mem_map] at hx
   obtain ⟨y, hy, rfl⟩ := hx
   have := chain_at s _ _ (all_chain s) y hy
   simp only [plOf]
   omega
 · have := wrong_range s
   simp only [RS0, allA]
   repeat' split
   all_goals omega
end
section
open Go.RowKit
theorem prO_in (s : ByteArray) : 0 ≤ (prO s).2 ∧ (prO s).2 ≤ s.size := by
 obtain ⟨h0, _, _, h3, h4⟩ := prg_in (in0 s)
 have key : 0 ≤ (orF (prg (RS0 s)).2.wc (prg (RS0 s)).2.wa (prg (RS0 s)).2.lc (prg (RS0 s)).2.la).2 ∧ (orF (prg (RS0 s)).2.wc (prg (RS0 s)).2.wa (prg (RS0 s)).2.lc (prg (RS0 s)).2.la).2 ≤ s.size := by
   unfold orF; split
   · exact h4
   · exact h3
 unfold prO
 dsimp only
 split
 · split
   · exact ⟨Int.le_refl _, h0⟩
   · exact ⟨Int.le_refl _, h0⟩
 · exact key
theorem prO_zero (s : ByteArray) (h : (prO s).1 = 0) : (prO s).2 = 0 ∧ mayB (prT s) = true := by
 have ht : prT s = (prg (RS0 s)).1 := by rw [prT, if_pos h]
 rw [ht]
 unfold prO at *
 dsimp only at *
 split at h
 · rename_i hx
   rw [if_pos hx]
   split at h
   · rename_i hm
     rw [if_pos hm]; exact ⟨rfl, hm⟩
   · simp at h
 · rename_i hx; exact absurd h hx
theorem bareL_nil {l : List Nd} (h : bareL l = bareL []) : l = [] := by
 cases l with
 | nil => rfl
 | cons x l => simp [bareL] at h
theorem any_text (w : World) (s : ByteArray) (hv : Vars w) (hs : s.size ≤ maxLen) : Calls Tryz.prog 7 #[.string s] w (AnyC s w) := by
 refine (program_any w s hv hs).mono ?_
 rintro e w' ⟨A, cap, ys, rfl, hk, hb, hw⟩
 have hp := prO_in s
 refine ⟨A, ys.length, cap, _, _, rfl, hw, hp.1, hp.2, fun hx => ?_, fun hx => ?_⟩
 · rw [prT, if_neg hx] at hb
   rw [bareL_nil hb]; rfl
 · obtain ⟨h0, hm⟩ := prO_zero s hx
   refine ⟨h0, fun w'' hb' => ?_⟩
   have hn := (hk.below hb').now
   have hle : sizeL ys ≤ 1000000 := by
     have h1 := prg_size (RS0 s)
     have h2 := sizeL_of_bare hb
     have h3 : (RS0 s).len ≤ 8000 := by simpa [RS0, RS.len] using all_few s
     have h4 : prT s = (prg (RS0 s)).1 := by rw [prT, if_pos hx]
     rw [h4] at h2
     omega
   exact ref_may_any w'' _ ys hn.1 hn.2 hle true (by rw [mayB_of_bare hb, hm])
end
section
open Go.RowKit
theorem told_keep {w w' : World} (hv : Vars w) (hb : Below w.heap.size w w') : ToldC w' := told_any w' (hv.keep (Keep.below hb))
theorem pany_any (w : World) (s : ByteArray) (b : Bool) (hv : Vars w) : Calls Tryz.prog 3 #[.string s, .bool b] w fun e w' => e = .returned (.bool true) ∧ Below w.heap.size w w' :=
 pany_of w s b (fun w' hb => told_keep hv hb) (fun t ht => any_text w t hv (by unfold maxLen; omega))
theorem pcuts_any (w : World) (v : Value) (cut : Int) (hl : Ll w v) (hv : Vars w) : Calls Tryz.prog 4 #[v, .int .i64 cut] w fun e w' => e = .returned (.bool true) ∧ Below w.heap.size w w' :=
 pcuts_of w v cut hl (fun w' hb => told_keep hv hb) (fun w' hb t ht => any_text w' t (hv.keep (Keep.below hb)) (by unfold maxLen; omega))
end
end Go.Proofs.YtnbfajmdfkgebaaGreatDoor
