/- Parts of the proof: SpA, SpE, SpP, SpS, SpM, SpQ, SpR, SpT, SpU, SpV, SpX. -/
import Derived.Test.YtipcoglddfgopaaGreatDoorP35
import Derived.Test.YtipcoglddfgopaaGreatDoorSs
import Derived.Test.YtipcoglddfgopaaGreatDoorP5
import Derived.KernelRfl
import Derived.Test.YtipcoglddfgopaaGreatDoorP8
import Derived.Test.YtipcoglddfgopaaGreatDoorP19
import Derived.Test.YtipcoglddfgopaaGreatDoorPgm
import Derived.Test.YtipcoglddfgopaaGreatDoorWz
set_option maxHeartbeats 4000000
namespace Go.Proofs.YtipcoglddfgopaaGreatDoor
set_option linter.unusedSimpArgs false
set_option linter.unusedVariables false
section
/-! ### What stands ahead settles it -/
theorem span_ext (f : Int → Bool) : ∀ (l R : List UInt8), spanL f l < l.length → spanL f (l ++ R) = spanL f l
 | [], R, h => by simp at h
 | b :: t, R, h => by
   rw [span_cons] at h
   rw [List.cons_append, span_cons, span_cons]
   split
   · rename_i hf
     rw [if_pos hf, List.length_cons] at h
     rw [span_ext f t R (by omega)]
   · rfl
theorem tlen_ext : ∀ (l R : List UInt8) (e : Bool) (n : Nat), 0 < tlenL e l n → tlenL e (l ++ R) n = tlenL e l n
 | [], R, e, n, h => by simp [tlenL] at h
 | b :: t, R, e, n, h => by
   rw [tlenL] at h
   rw [List.cons_append, tlenL, tlenL]
   split
   · rfl
   · rename_i h1
     rw [if_neg h1] at h
     split
     · rename_i h2; rw [if_pos h2] at h; exact tlen_ext t R _ _ h
     · rename_i h2
       rw [if_neg h2] at h
       split
       · rename_i h3; rw [if_pos h3] at h; exact tlen_ext t R _ _ h
       · rename_i h3
         rw [if_neg h3] at h
         split
         · rfl
         · rename_i h4; rw [if_neg h4] at h; exact tlen_ext t R _ _ h
theorem textLen_ext (l R : List UInt8) (h : 0 < textLen l) : textLen (l ++ R) = textLen l := by
 cases l with
 | nil => simp [textLen] at h
 | cons b t =>
   simp only [textLen, List.cons_append] at h ⊢
   split
   · rename_i hb; rw [if_pos hb] at h; exact tlen_ext t R _ _ h
   · rfl
theorem take_ext (l R : List UInt8) (n : Nat) (h : n ≤ l.length) : (l ++ R).take n = l.take n := by
 rw [List.take_append_of_le_length h]
theorem first_ext (l R : List UInt8) (h2 : 2 ≤ l.length) (h0 : (firstL l).2.2 ≠ 0) (h : (firstL l).2.2 < l.length) : firstL (l ++ R) = firstL l := by
 unfold firstL at h0 h ⊢
 by_cases hd : 0 < spanL digit l
 · rw [if_pos hd] at h0 h ⊢
   simp only at h
   have e := span_ext digit l R h
   rw [e, if_pos hd, take_ext l R _ (by omega)]
 · rw [if_neg hd] at h0 h ⊢
   have e := span_ext digit l R (by omega)
   rw [e, if_neg hd]
   by_cases ha : 0 < spanL alnum l
   · rw [if_pos ha] at h0 h ⊢
     simp only at h
     have e2 := span_ext alnum l R h
     rw [e2, if_pos ha, take_ext l R _ (by omega)]
   · rw [if_neg ha] at h0 h ⊢
     have e2 := span_ext alnum l R (by omega)
     rw [e2, if_neg ha]
     by_cases ht : 0 < textLen l
     · rw [if_pos ht] at h0 h ⊢
       have e3 := textLen_ext l R ht
       have hle : textLen l ≤ l.length := by rcases text_le l with h | h <;> omega
       have e4 : inner (l ++ R) (textLen l) = inner l (textLen l) := by unfold inner; rw [take_ext l R _ (by omega)]
       rw [e3, if_pos ht, e4]
     · rw [if_neg ht] at h0 h ⊢
       simp only at h0
       have em : markL (l ++ R) = markL l := by
         unfold markL
         rw [take_ext l R 2 h2]
         match l, h2 with
         | b :: t, _ => rfl
       have hq : ¬ 0 < textLen (l ++ R) := by
         match l, h2, h0, ht with
         | b :: c :: t, _, h0, ht =>
           intro hh
           have hb := text_quote _ hh
           simp at hb
           subst hb
           apply h0
           unfold markL
           have : twos.contains ((34 :: c :: t).take 2) = false := by
             simp [twos]
           rw [this]
           simp [ones]
       rw [if_neg hq, em]
       congr 2
       rw [take_ext l R _ (mark_le l)]
/-! ### Gaps -/
def gapS : Bool → List UInt8 → Option Bool
 | c, [] => some c
 | c, b :: t =>
   if b.toNat = 10 then gapS false t
   else if c = true then gapS true t
   else if blankI b.toNat = true then gapS false t
   else if b.toNat = 47 ∧ t.head? = some 47 then gapS true t
   else none
theorem gapS_app : ∀ (l : List UInt8) (c d : Bool) (R : List UInt8), gapS c l = some d → gapL c (l ++ R) = l.length + gapL d R
 | [], c, d, R, h => by simp only [gapS] at h; cases h; simp
 | b :: t, c, d, R, h => by
   rw [gapS] at h
   rw [List.cons_append, gapL, List.length_cons]
   split
   · rename_i h1; rw [if_pos h1] at h; rw [gapS_app t _ _ R h]; omega
   · rename_i h1
     rw [if_neg h1] at h
     split
     · rename_i h2; rw [if_pos h2] at h; rw [gapS_app t _ _ R h]; omega
     · rename_i h2
       rw [if_neg h2] at h
       split
       · rename_i h3; rw [if_pos h3] at h; rw [gapS_app t _ _ R h]; omega
       · rename_i h3
         rw [if_neg h3] at h
         split at h
         · rename_i h4
           have : b.toNat = 47 ∧ (t ++ R).head? = some 47 := by
             refine ⟨h4.1, ?_⟩
             cases t with
             | nil => simp at h4
             | cons x u => simpa using h4.2
           rw [if_pos this, gapS_app t _ _ R h]; omega
         · cases h
theorem gap_ext : ∀ (l : List UInt8) (c : Bool) (R : List UInt8), gapL c l + 1 < l.length → gapL c (l ++ R) = gapL c l
 | [], c, R, h => by simp at h
 | b :: t, c, R, h => by
   rw [gapL] at h
   rw [List.cons_append, gapL, gapL]
   split
   · rename_i h1; rw [if_pos h1] at h; rw [gap_ext t _ R (by simp at h; omega)]
   · rename_i h1
     rw [if_neg h1] at h
     split
     · rename_i h2; rw [if_pos h2] at h; rw [gap_ext t _ R (by simp at h; omega)]
     · rename_i h2
       rw [if_neg h2] at h
       split
       · rename_i h3; rw [if_pos h3] at h; rw [gap_ext t _ R (by simp at h; omega)]
       · rename_i h3
         rw [if_neg h3] at h
         have hh : (t ++ R).head? = t.head? := by
           cases t with
           | nil => simp at h
           | cons x u => rfl
         rw [hh]
         split
         · rename_i h4; rw [if_pos h4] at h; rw [gap_ext t _ R (by simp at h; omega)]
         · rfl
/-! ### Parts -/
abbrev Kt := Nat × List UInt8
def Lx (l : List UInt8) (P : List Kt) : Prop := ∀ a, (cutL l a).1.map (fun x => (x.k, x.t)) = P ∧ (cutL l a).2 = -1
def segF : Nat → List UInt8 → UInt8 → Option (List Kt)
 | 0, _, _ => none
 | n + 1, l, c =>
   if gapS false l = some false then some []
   else
     let m := (l ++ [c]).drop (gapL false (l ++ [c]))
     let w := firstL m
     if gapL false (l ++ [c]) < l.length ∧ w.2.2 ≠ 0 ∧ w.2.2 < m.length then
       match segF n (l.drop (gapL false (l ++ [c]) + w.2.2)) c with
       | some Q => some ((w.1, w.2.1) :: Q)
       | none => none
     else none
theorem segF_is : ∀ (n : Nat) (l : List UInt8) (c : UInt8) (Q : List Kt) (R : List UInt8) (P : List Kt), segF n l c = some Q → R.head? = some c → Lx R P → Lx (l ++ R) (Q ++ P)
 | 0, l, c, Q, R, P, h, _, _ => by simp [segF] at h
 | n + 1, l, c, Q, R, P, h, hR, hP => by
   rw [segF] at h
   split at h
   · rename_i hg
     cases h
     intro a
     have e := gapS_app l false false R hg
     have hd : (l ++ R).drop (l.length + gapL false R) = R.drop (gapL false R) := by rw [List.drop_append]; simp
     unfold cutL
     rw [e, hd, ← Nat.add_assoc]
     exact hP (a + l.length)
   · simp only at h
     split at h
     · rename_i hc
       obtain ⟨h1, h2, h3⟩ := hc
       split at h
       · rename_i Q' hq
         cases h
         obtain ⟨R', rfl⟩ : ∃ R', R = c :: R' := by
           cases R with
           | nil => simp at hR
           | cons x u => simp at hR; exact ⟨u, by rw [hR]⟩
         have el : l ++ c :: R' = (l ++ [c]) ++ R' := by simp
         have hlen : (l ++ [c]).length = l.length + 1 := by simp
         have eg : gapL false (l ++ c :: R') = gapL false (l ++ [c]) := by rw [el]; exact gap_ext _ _ _ (by omega)
         generalize hg : gapL false (l ++ [c]) = g at h1 h2 h3 hq eg ⊢
         have ed : (l ++ c :: R').drop g = (l ++ [c]).drop g ++ R' := by rw [el, List.drop_append_of_le_length (by omega)]
         have hm : ((l ++ [c]).drop g).length = l.length + 1 - g := by rw [List.length_drop, hlen]
         have ef : firstL ((l ++ c :: R').drop g) = firstL ((l ++ [c]).drop g) := by rw [ed]; exact first_ext _ _ (by omega) h2 h3
         have hne : (l ++ c :: R').drop g ≠ [] := by rw [ed]; intro e0; have := congrArg List.length e0; rw [List.length_append, hm] at this; simp at this; omega
         generalize hw : firstL ((l ++ [c]).drop g) = w at h2 h3 hq ef ⊢
         have ih := segF_is n _ c Q' (c :: R') P hq rfl hP
         have er : ((l ++ c :: R').drop g).drop w.2.2 = l.drop (g + w.2.2) ++ c :: R' := by
           rw [List.drop_drop, List.drop_append_of_le_length (by omega)]
         intro a
         have hcut : cutL (l ++ c :: R') a = wordsL ((l ++ c :: R').drop g) (a + g) := by unfold cutL; rw [eg]
         rw [hcut, words_step _ _ hne (by rw [ef]; exact h2), ef, er]
         obtain ⟨k1, k2⟩ := ih (a + g + w.2.2)
         refine ⟨?_, k2⟩
         simp only [List.map_cons, List.cons_append]
         rw [k1]
       · cases h
     · cases h
end
section
open Go.RowKit
def er (s : RS) : RS := { s with ws := s.ws.map fun x => (x.1, 0), sz := 0, wa := 0, la := 0 }
theorem er_get (s : RS) (i : Nat) : (er s).ws[i]? = s.ws[i]?.map fun x => (x.1, 0) := by simp [er]
theorem er_sees (s : RS) (n : Nat) (t : ByteArray) : (er s).sees n t = s.sees n t := by
 unfold RS.sees; rw [er_get]
 cases s.ws[n]? with
 | none => rfl
 | some x => obtain ⟨p, a⟩ := x; cases p <;> rfl
theorem er_nm (s : RS) (i : Nat) : nmP (er s).ws[i]? = nmP s.ws[i]? := by
 rw [er_get]
 cases s.ws[i]? with
 | none => rfl
 | some x => obtain ⟨p, a⟩ := x; cases p <;> rfl
theorem er_cl (s : RS) (i : Nat) : clP (er s).ws[i]? = clP s.ws[i]? := by
 rw [er_get]
 cases s.ws[i]? with
 | none => rfl
 | some x => obtain ⟨p, a⟩ := x; cases p <;> rfl
theorem er_nu (s : RS) (i : Nat) : nuP (er s).ws[i]? = nuP s.ws[i]? := by
 rw [er_get]
 cases s.ws[i]? with
 | none => rfl
 | some x => obtain ⟨p, a⟩ := x; cases p <;> rfl
theorem er_fx (s : RS) (i : Nat) : fxP (er s).ws[i]? = fxP s.ws[i]? := by
 rw [er_get]
 cases s.ws[i]? with
 | none => rfl
 | some x => obtain ⟨p, a⟩ := x; cases p <;> rfl
theorem er_len (s : RS) : (er s).len = s.len := by simp [er, RS.len]
theorem er_empty (s : RS) : (er s).ws.isEmpty = s.ws.isEmpty := by cases h : s.ws <;> simp [er, h]
theorem er_skip (s : RS) : (er s).skip = er s.skip := by simp [er, RS.skip, List.map_drop]
theorem er_at (s : RS) : (er s).at = 0 := by unfold RS.at; cases h : s.ws <;> simp [er, h, atW]
theorem er_fail (s : RS) (c : Int) : (er s).fail c = er (s.fail c) := by
 have h := er_at s
 unfold RS.fail
 rw [h]
 show (if s.wc = 0 then _ else _) = _
 split <;> simp [er]
theorem er_need (s : RS) (p : ByteArray) : (er s).need p = er (s.need p) := by
 unfold RS.need; rw [er_sees]; split
 · exact er_skip s
 · exact er_fail s 3
theorem er_take (s : RS) (p : ByteArray) : (er s).take p = er (s.take p) := by
 unfold RS.take; rw [er_sees]; split
 · exact er_skip s
 · rfl
theorem er_inc (s : RS) : (er s).inc = er s.inc := rfl
theorem er_dec (s : RS) : (er s).dec = er s.dec := rfl
theorem er_enter (s : RS) (p : ByteArray) : (er s).enter p = er (s.enter p) := by
 unfold RS.enter; rw [er_sees]
 have h : (er s).op = s.op := rfl
 rw [h]
 split
 · rw [er_fail, er_need, er_inc]
 · rw [er_need, er_inc]
theorem er_leave (s : RS) (p : ByteArray) : (er s).leave p = er (s.leave p) := by unfold RS.leave; rw [er_need, er_dec]
theorem er_called (s : RS) (t : ByteArray) (b : Bool) : (er s).called t b = er (s.called t b) := by
 unfold RS.called; split
 · split
   · exact er_fail s 5
   · exact er_skip s
 · exact er_fail s 3
theorem er_byO (s : RS) (o : Option ByteArray) : (er s).byO o = er (s.byO o) := by
 unfold RS.byO; split <;> exact er_called s _ _
theorem er_name (s : RS) : (er s).name = er s.name := by unfold RS.name; rw [er_nm, er_byO]
theorem er_nameV (s : RS) : (er s).nameV = s.nameV := by unfold RS.nameV; rw [er_nm]
theorem er_class (s : RS) : (er s).class = er s.class := by unfold RS.class; rw [er_cl, er_byO]
theorem er_classV (s : RS) : (er s).classV = s.classV := by unfold RS.classV; rw [er_cl]
theorem er_typ (s : RS) : (er s).typ = er s.typ := by
 unfold RS.typ; rw [er_sees, er_sees, er_sees, er_skip, er_class]
 repeat' split
 all_goals rfl
theorem er_typV (s : RS) : (er s).typV = s.typV := by unfold RS.typV; rw [er_sees, er_sees, er_sees, er_classV]
theorem er_numT (s : RS) (m : Int) (t : ByteArray) : (er s).numT m t = er (s.numT m t) := by
 unfold RS.numT; repeat' split
 all_goals first | exact er_skip s | exact er_fail s 5
theorem er_num (s : RS) (m : Int) : (er s).num m = er (s.num m) := by
 unfold RS.num; rw [er_nu]; split
 · exact er_numT s _ _
 · exact er_fail s 3
theorem er_numR (s : RS) (m : Int) : (er s).numR m = s.numR m := by unfold RS.numR; rw [er_nu]
theorem er_sign (s : RS) : signOf (er s) = signOf s := by unfold signOf; rw [er_sees, er_sees, er_sees]
theorem er_until (s : RS) (t : ByteArray) : (er s).until t = s.until t := by unfold RS.until; rw [er_sees, er_empty]
theorem er_run : ∀ (n : Nat) (m : Md) (s : RS), run n m (er s) = ((run n m s).1, er (run n m s).2) := by
 intro n
 induction n with
 | zero => intro m s; rfl
 | succ n ih =>
   intro m s
   cases m with
   | expr => exact ih _ _
   | joined k => simp only [run, ih]
   | loopJ k e =>
     simp only [run, er_fx]
     split
     · split
       · simp only [er_skip, ih]
       · rfl
     · rfl
   | signed =>
     simp only [run, er_sign]
     split
     · simp only [er_enter, ih, er_dec]
     · exact ih _ _
   | followed => simp only [run, ih]
   | loopF e =>
     simp only [run, er_sees, er_skip, ih, er_class, er_classV]
     repeat' split
     all_goals rfl
   | used p c ty l =>
     simp only [run, er_sees, er_name, er_nameV, ih]
     split <;> rfl
   | args => simp only [run, er_enter, ih, er_leave]
   | listed =>
     simp only [run, er_sees, ih]
     split <;> rfl
   | more l =>
     simp only [run, er_sees, er_skip, ih]
     split <;> rfl
   | atom =>
     have hg := er_get s 0
     cases h : s.ws[0]? with
     | none =>
       rw [h] at hg
       have hg : (er s).ws[0]? = none := hg
       simp only [run, hg, h, ih]
     | some x =>
       obtain ⟨p, a⟩ := x
       rw [h] at hg
       have hg : (er s).ws[0]? = some (p, 0) := hg
       cases p <;> simp only [run, hg, h, ih, er_numR, er_num, er_skip, er_classV, er_class, er_need]
   | fixed =>
     simp only [run, er_sees, er_skip, er_need, ih, er_class, er_classV, er_enter, er_leave, er_fail]
     repeat' split
     all_goals rfl
theorem er_ex (s : RS) : ex (er s) = ((ex s).1, er (ex s).2) := by unfold ex; rw [er_len, er_run]
theorem er_ar (s : RS) : ar (er s) = ((ar s).1, er (ar s).2) := by unfold ar; rw [er_len, er_run]
theorem er_finE (s : RS) : finE (er s) = ((finE s).1, er (finE s).2) := by unfold finE; simp only [er_ex, er_need]
theorem er_valE (s : RS) : valE (er s) = ((valE s).1, er (valE s).2) := by unfold valE; rw [er_need, er_finE]
theorem er_cond (s : RS) : cond (er s) = ((cond s).1, er (cond s).2) := by unfold cond; simp only [er_need, er_ex]
theorem er_resS (s : RS) : resS (er s) = ((resS s).1, er (resS s).2) := by
 unfold resS; simp only [er_sees, er_skip, er_finE]; split <;> rfl
theorem er_supS (s : RS) : supS (er s) = ((supS s).1, er (supS s).2) := by unfold supS; simp only [er_skip, er_ar, er_need]
theorem er_plaS (s : RS) : plaS (er s) = ((plaS s).1, er (plaS s).2) := by
 unfold plaS; simp only [er_ex, er_sees, er_skip, er_finE, er_need]; split <;> rfl
theorem er_varS (s : RS) : varS (er s) = ((varS s).1, er (varS s).2) := by unfold varS; simp only [er_typ, er_typV, er_name, er_nameV, er_valE]
theorem er_varB (s : RS) : (er s).varB = s.varB := by unfold RS.varB; rw [er_sees, er_sees, er_sees, er_cl, er_nm]
section
variable {b : Rb} (hb : ∀ s, b (er s) = ((b s).1, er (b s).2))
include hb
theorem er_choS (s : RS) : choS b (er s) = ((choS b s).1, er (choS b s).2) := by
 unfold choS; simp only [er_cond, hb, er_sees, er_skip]; split <;> rfl
theorem er_whlS (s : RS) : whlS b (er s) = ((whlS b s).1, er (whlS b s).2) := by unfold whlS; simp only [er_cond, hb]
theorem er_at1 (s : RS) : at1 b (er s) = er (at1 b s) := by unfold at1; simp only [hb, er_need]
theorem er_at2 (s : RS) : at2 b (er s) = er (at2 b s) := by unfold at2; rw [er_at1 hb, er_class]
theorem er_at3 (s : RS) : at3 b (er s) = er (at3 b s) := by unfold at3; rw [er_at2 hb, er_name, er_need]
theorem er_attS (s : RS) : attS b (er s) = ((attS b s).1, er (attS b s).2) := by
 unfold attS; simp only [er_at1 hb, er_at2 hb, er_at3 hb, hb, er_sees, er_skip, er_classV, er_nameV]; split <;> rfl
theorem er_stS (s : RS) : stS b (er s) = ((stS b s).1, er (stS b s).2) := by
 unfold stS
 simp only [er_varB, er_sees, er_skip, er_varS, er_choS hb, er_whlS hb, er_resS, er_finE, er_num, er_numR, er_attS hb, er_supS, er_plaS]
 repeat' split
 all_goals rfl
end
theorem er_late0 (s : RS) (a : Int) : (er s).lateN 0 = er (s.lateN a) := by
 unfold RS.lateN
 have h : (er s).lc = s.lc := rfl
 rw [h]; split <;> simp [er]
theorem er_runS : ∀ (n : Nat) (m : Ms) (s : RS), runS n m (er s) = ((runS n m s).1, er (runS n m s).2) := by
 intro n
 induction n with
 | zero => intro m s; rfl
 | succ n ih =>
   intro m s
   cases m with
   | body c => simp only [runS, er_enter, ih, er_leave]
   | loop c l =>
     have hs := er_stS (b := runS n (.body false)) (fun s => ih _ s) s
     simp only [runS, er_until, hs]
     split
     · split
       · rw [ih]
       · rw [er_at, er_late0 _ s.at, ih]
     · rfl
theorem er_bd (c : Bool) (s : RS) : bd c (er s) = ((bd c s).1, er (bd c s).2) := by unfold bd; rw [er_len, er_runS]
theorem er_parV (s : RS) : parV (er s) = ((parV s).1, er (parV s).2) := by unfold parV; simp only [er_typ, er_typV, er_name, er_nameV]
theorem er_moreP : ∀ (n : Nat) (l : List Pm) (s : RS), moreP n l (er s) = ((moreP n l s).1, er (moreP n l s).2) := by
 intro n
 induction n with
 | zero => intro l s; rfl
 | succ n ih =>
   intro l s
   simp only [moreP, er_sees, er_skip, er_parV, ih]
   split <;> rfl
theorem er_lstP (s : RS) : lstP (er s) = ((lstP s).1, er (lstP s).2) := by
 unfold lstP; simp only [er_sees, er_parV, er_moreP, er_len]; split <;> rfl
theorem er_parP (s : RS) : parP (er s) = ((parP s).1, er (parP s).2) := by unfold parP; simp only [er_need, er_lstP]
theorem er_metM (st : Bool) (ty nm : ByteArray) (s : RS) : metM st ty nm (er s) = ((metM st ty nm s).1, er (metM st ty nm s).2) := by unfold metM; simp only [er_parP, er_bd]
theorem er_fldM (st : Bool) (ty nm : ByteArray) (s : RS) : fldM st ty nm (er s) = ((fldM st ty nm s).1, er (fldM st ty nm s).2) := by
 unfold fldM; simp only [er_sees, er_skip, er_ex, er_need]; split <;> rfl
theorem er_ctoM (s : RS) : ctoM (er s) = ((ctoM s).1, er (ctoM s).2) := by unfold ctoM; simp only [er_skip, er_parP, er_bd]
theorem er_ctorB (s : RS) (own : ByteArray) : (er s).ctorB own = s.ctorB own := by unfold RS.ctorB; rw [er_cl, er_sees]
theorem er_memM (own : ByteArray) (s : RS) : memM own (er s) = ((memM own s).1, er (memM own s).2) := by
 unfold memM
 simp only [er_sees, er_take, er_ctorB, er_ctoM, er_skip, er_nameV, er_name, er_metM, er_typ, er_typV, er_fldM]
 repeat' split
 all_goals rfl
theorem er_loopC : ∀ (n : Nat) (own : ByteArray) (f g : List Nd) (s : RS), loopC n own f g (er s) = ((loopC n own f g s).1, er (loopC n own f g s).2) := by
 intro n
 induction n with
 | zero => intro own f g s; rfl
 | succ n ih =>
   intro own f g s
   simp only [loopC, er_until, er_memM, ih]
   repeat' split
   all_goals rfl
theorem er_kl1 (s : RS) : kl1 (er s) = er (kl1 s) := by unfold kl1; rw [er_need, er_class]
theorem er_kl2 (s : RS) : kl2 (er s) = er (kl2 s) := by
 unfold kl2; simp only [er_kl1, er_sees, er_skip, er_class]; split <;> rfl
theorem er_clSup (s : RS) : clSup (er s) = clSup s := by unfold clSup; simp only [er_kl1, er_sees, er_skip, er_classV]
theorem er_kl3 (s : RS) : kl3 (er s) = er (kl3 s) := by unfold kl3; rw [er_kl2, er_need]
theorem er_clB (s : RS) : clB (er s) = ((clB s).1, er (clB s).2) := by unfold clB; rw [er_kl3, er_len, er_need, er_classV, er_loopC]
theorem er_clsC (s : RS) : clsC (er s) = ((clsC s).1, er (clsC s).2) := by unfold clsC; simp only [er_need, er_classV, er_clSup, er_clB]
theorem er_loopG : ∀ (n : Nat) (l : List Nd) (s : RS), loopG n l (er s) = ((loopG n l s).1, er (loopG n l s).2) := by
 intro n
 induction n with
 | zero => intro l s; rfl
 | succ n ih =>
   intro l s
   simp only [loopG, er_empty, er_clsC, ih]
   split <;> rfl
theorem er_prg (s : RS) : prg (er s) = ((prg s).1, er (prg s).2) := by unfold prg; rw [er_len, er_loopG]
end
set_option maxRecDepth 100000
section
open Go.RowKit
def prs (Q : List Kt) : List Pr := Q.map fun x => partP x.1 ⟨x.2.toArray⟩
def spB (b : List UInt8) (l : List UInt8) : List UInt8 := l.flatMap fun x => if x = 59 ∨ x = 123 ∨ x = 44 then x :: b else [x]
def bks : List (List UInt8) := [[], [32], [10], [32, 47, 47, 32, 120, 32, 125, 10], [9, 32]]
def segC (l : List UInt8) (c : UInt8) (w : List Pr) : Prop := ∀ b ∈ bks, ∃ Q, segF 1000 (spB b l) c = some Q ∧ prs Q = w
theorem segC_of {l : List UInt8} {c : UInt8} {w : List Pr} (h : bks.map (fun b => (segF 1000 (spB b l) c).map prs) = bks.map fun _ => some w) : segC l c w := by
 intro b hb
 have := List.map_inj_left.1 h b hb
 obtain ⟨Q, h1, h2⟩ := Option.map_eq_some_iff.1 this
 exact ⟨Q, h1, h2⟩
def gA1 : List UInt8 := [99, 108, 97, 115, 115, 32, 65, 32, 123, 32, 105, 110, 116, 32, 120, 32, 61, 32, 49, 59, 32, 115, 116, 97, 116, 105, 99, 32, 105, 110, 116, 32, 115, 32, 61, 32, 50, 59, 32, 65, 32, 110, 59, 32, 83, 116, 114, 105, 110, 103, 32, 119, 32, 61, 32, 34, 119, 34, 59, 32, 65, 40, 41, 32, 123, 32, 120, 32, 61, 32, 53, 59, 32, 125, 32, 105, 110, 116, 32, 102, 40, 105, 110, 116, 32, 97, 41, 32, 123, 32, 65, 32, 111, 32, 61, 32, 110, 59]
def wA1 : List Pr := [.fx ⟨#[99, 108, 97, 115, 115]⟩, .cl ⟨#[65]⟩, .fx ⟨#[123]⟩, .fx ⟨#[105, 110, 116]⟩, .nm ⟨#[120]⟩, .fx ⟨#[61]⟩, .nu ⟨#[49]⟩, .fx ⟨#[59]⟩, .fx ⟨#[115, 116, 97, 116, 105, 99]⟩, .fx ⟨#[105, 110, 116]⟩, .nm ⟨#[115]⟩, .fx ⟨#[61]⟩, .nu ⟨#[50]⟩, .fx ⟨#[59]⟩, .cl ⟨#[65]⟩, .nm ⟨#[110]⟩, .fx ⟨#[59]⟩, .fx ⟨#[83, 116, 114, 105, 110, 103]⟩, .nm ⟨#[119]⟩, .fx ⟨#[61]⟩, .qu ⟨#[119]⟩, .fx ⟨#[59]⟩, .cl ⟨#[65]⟩, .fx ⟨#[40]⟩, .fx ⟨#[41]⟩, .fx ⟨#[123]⟩, .nm ⟨#[120]⟩, .fx ⟨#[61]⟩, .nu ⟨#[53]⟩, .fx ⟨#[59]⟩, .fx ⟨#[125]⟩, .fx ⟨#[105, 110, 116]⟩, .nm ⟨#[102]⟩, .fx ⟨#[40]⟩, .fx ⟨#[105, 110, 116]⟩, .nm ⟨#[97]⟩, .fx ⟨#[41]⟩, .fx ⟨#[123]⟩, .cl ⟨#[65]⟩, .nm ⟨#[111]⟩, .fx ⟨#[61]⟩, .nm ⟨#[110]⟩, .fx ⟨#[59]⟩]
theorem cA1 : segC gA1 32 wA1 := segC_of (by kernel_rfl)
def gA2 : List UInt8 := [32, 114, 101, 116, 117, 114, 110, 32, 120, 59, 32, 125, 32, 105, 110, 116, 32, 102, 40, 65, 32, 111, 41, 32, 123, 32, 114, 101, 116, 117, 114, 110, 32, 49, 59, 32, 125, 32, 105, 110, 116, 32, 102, 40, 105, 110, 116, 32, 97, 44, 32, 105, 110, 116, 32, 98, 41, 32, 123, 32, 114, 101, 116, 117, 114, 110, 32, 97, 32, 45, 32, 98, 59, 32, 125, 32, 118, 111, 105, 100, 32, 103, 50, 40, 41, 32, 123, 32, 112, 114, 105, 110, 116, 32, 34, 65, 34, 59, 32, 125, 32, 115, 116, 97, 116, 105, 99, 32, 105, 110, 116, 32, 107, 40, 105, 110, 116, 32, 97, 41, 32, 123, 32, 114, 101, 116, 117, 114, 110, 32, 97, 32, 42, 32, 65, 58, 58, 115, 59, 32, 125, 32, 125, 10]
def wA2 : List Pr := [.fx ⟨#[114, 101, 116, 117, 114, 110]⟩, .nm ⟨#[120]⟩, .fx ⟨#[59]⟩, .fx ⟨#[125]⟩, .fx ⟨#[105, 110, 116]⟩, .nm ⟨#[102]⟩, .fx ⟨#[40]⟩, .cl ⟨#[65]⟩, .nm ⟨#[111]⟩, .fx ⟨#[41]⟩, .fx ⟨#[123]⟩, .fx ⟨#[114, 101, 116, 117, 114, 110]⟩, .nu ⟨#[49]⟩, .fx ⟨#[59]⟩, .fx ⟨#[125]⟩, .fx ⟨#[105, 110, 116]⟩, .nm ⟨#[102]⟩, .fx ⟨#[40]⟩, .fx ⟨#[105, 110, 116]⟩, .nm ⟨#[97]⟩, .fx ⟨#[44]⟩, .fx ⟨#[105, 110, 116]⟩, .nm ⟨#[98]⟩, .fx ⟨#[41]⟩, .fx ⟨#[123]⟩, .fx ⟨#[114, 101, 116, 117, 114, 110]⟩, .nm ⟨#[97]⟩, .fx ⟨#[45]⟩, .nm ⟨#[98]⟩, .fx ⟨#[59]⟩, .fx ⟨#[125]⟩, .fx ⟨#[118, 111, 105, 100]⟩, .nm ⟨#[103, 50]⟩, .fx ⟨#[40]⟩, .fx ⟨#[41]⟩, .fx ⟨#[123]⟩, .fx ⟨#[112, 114, 105, 110, 116]⟩, .qu ⟨#[65]⟩, .fx ⟨#[59]⟩, .fx ⟨#[125]⟩, .fx ⟨#[115, 116, 97, 116, 105, 99]⟩, .fx ⟨#[105, 110, 116]⟩, .nm ⟨#[107]⟩, .fx ⟨#[40]⟩, .fx ⟨#[105, 110, 116]⟩, .nm ⟨#[97]⟩, .fx ⟨#[41]⟩, .fx ⟨#[123]⟩, .fx ⟨#[114, 101, 116, 117, 114, 110]⟩, .nm ⟨#[97]⟩, .fx ⟨#[42]⟩, .cl ⟨#[65]⟩, .fx ⟨#[58, 58]⟩, .nm ⟨#[115]⟩, .fx ⟨#[59]⟩, .fx ⟨#[125]⟩, .fx ⟨#[125]⟩]
theorem cA2 : segC gA2 99 wA2 := segC_of (by kernel_rfl)
def gB1 : List UInt8 := [99, 108, 97, 115, 115, 32, 66, 32, 101, 120, 116, 101, 110, 100, 115, 32, 65, 32, 123, 32, 105, 110, 116, 32, 120, 32, 61, 32, 55, 59, 32, 105, 110, 116, 32, 121, 59, 32, 66, 32, 109, 59, 32, 66, 40, 105, 110, 116, 32, 97, 41, 32, 123, 32, 115, 117, 112, 101, 114, 40, 41, 59, 32, 121, 32, 61, 32, 97, 59, 32, 125, 32, 66, 40, 41, 32, 123, 32, 125, 32, 105, 110, 116, 32, 102, 40, 105, 110, 116, 32, 97, 41, 32, 123, 32, 65, 32, 111, 32, 61, 32, 116, 104, 105, 115, 59]
def wB1 : List Pr := [.fx ⟨#[99, 108, 97, 115, 115]⟩, .cl ⟨#[66]⟩, .fx ⟨#[101, 120, 116, 101, 110, 100, 115]⟩, .cl ⟨#[65]⟩, .fx ⟨#[123]⟩, .fx ⟨#[105, 110, 116]⟩, .nm ⟨#[120]⟩, .fx ⟨#[61]⟩, .nu ⟨#[55]⟩, .fx ⟨#[59]⟩, .fx ⟨#[105, 110, 116]⟩, .nm ⟨#[121]⟩, .fx ⟨#[59]⟩, .cl ⟨#[66]⟩, .nm ⟨#[109]⟩, .fx ⟨#[59]⟩, .cl ⟨#[66]⟩, .fx ⟨#[40]⟩, .fx ⟨#[105, 110, 116]⟩, .nm ⟨#[97]⟩, .fx ⟨#[41]⟩, .fx ⟨#[123]⟩, .fx ⟨#[115, 117, 112, 101, 114]⟩, .fx ⟨#[40]⟩, .fx ⟨#[41]⟩, .fx ⟨#[59]⟩, .nm ⟨#[121]⟩, .fx ⟨#[61]⟩, .nm ⟨#[97]⟩, .fx ⟨#[59]⟩, .fx ⟨#[125]⟩, .cl ⟨#[66]⟩, .fx ⟨#[40]⟩, .fx ⟨#[41]⟩, .fx ⟨#[123]⟩, .fx ⟨#[125]⟩, .fx ⟨#[105, 110, 116]⟩, .nm ⟨#[102]⟩, .fx ⟨#[40]⟩, .fx ⟨#[105, 110, 116]⟩, .nm ⟨#[97]⟩, .fx ⟨#[41]⟩, .fx ⟨#[123]⟩, .cl ⟨#[65]⟩, .nm ⟨#[111]⟩, .fx ⟨#[61]⟩, .fx ⟨#[116, 104, 105, 115]⟩, .fx ⟨#[59]⟩]
theorem cB1 : segC gB1 32 wB1 := segC_of (by kernel_rfl)
def gB1r : List UInt8 := [99, 108, 97, 115, 115, 32, 66, 32, 101, 120, 116, 101, 110, 100, 115, 32, 65, 32, 123, 32, 105, 110, 116, 32, 120, 32, 61, 32, 55, 59, 32, 105, 110, 116, 32, 121, 59, 32, 66, 32, 109, 59, 32, 66, 40, 105, 110, 116, 32, 97, 41, 32, 123, 32, 115, 117, 112, 101, 114, 40, 41, 59, 32, 121, 32, 61, 32, 97, 59, 32, 125, 32, 66, 40, 41, 32, 123, 32, 125, 32, 105, 110, 116, 32, 102, 40, 105, 110, 116, 32, 97, 41, 32, 123, 32, 65, 32, 111, 32, 61, 32, 116, 104, 105, 115, 59, 32, 67, 32, 99, 32, 61, 32, 110, 101, 119, 32, 67, 40, 41, 59]
def wB1r : List Pr := [.fx ⟨#[99, 108, 97, 115, 115]⟩, .cl ⟨#[66]⟩, .fx ⟨#[101, 120, 116, 101, 110, 100, 115]⟩, .cl ⟨#[65]⟩, .fx ⟨#[123]⟩, .fx ⟨#[105, 110, 116]⟩, .nm ⟨#[120]⟩, .fx ⟨#[61]⟩, .nu ⟨#[55]⟩, .fx ⟨#[59]⟩, .fx ⟨#[105, 110, 116]⟩, .nm ⟨#[121]⟩, .fx ⟨#[59]⟩, .cl ⟨#[66]⟩, .nm ⟨#[109]⟩, .fx ⟨#[59]⟩, .cl ⟨#[66]⟩, .fx ⟨#[40]⟩, .fx ⟨#[105, 110, 116]⟩, .nm ⟨#[97]⟩, .fx ⟨#[41]⟩, .fx ⟨#[123]⟩, .fx ⟨#[115, 117, 112, 101, 114]⟩, .fx ⟨#[40]⟩, .fx ⟨#[41]⟩, .fx ⟨#[59]⟩, .nm ⟨#[121]⟩, .fx ⟨#[61]⟩, .nm ⟨#[97]⟩, .fx ⟨#[59]⟩, .fx ⟨#[125]⟩, .cl ⟨#[66]⟩, .fx ⟨#[40]⟩, .fx ⟨#[41]⟩, .fx ⟨#[123]⟩, .fx ⟨#[125]⟩, .fx ⟨#[105, 110, 116]⟩, .nm ⟨#[102]⟩, .fx ⟨#[40]⟩, .fx ⟨#[105, 110, 116]⟩, .nm ⟨#[97]⟩, .fx ⟨#[41]⟩, .fx ⟨#[123]⟩, .cl ⟨#[65]⟩, .nm ⟨#[111]⟩, .fx ⟨#[61]⟩, .fx ⟨#[116, 104, 105, 115]⟩, .fx ⟨#[59]⟩, .cl ⟨#[67]⟩, .nm ⟨#[99]⟩, .fx ⟨#[61]⟩, .fx ⟨#[110, 101, 119]⟩, .cl ⟨#[67]⟩, .fx ⟨#[40]⟩, .fx ⟨#[41]⟩, .fx ⟨#[59]⟩]
theorem cB1r : segC gB1r 32 wB1r := segC_of (by kernel_rfl)
def gB2 : List UInt8 := [32, 114, 101, 116, 117, 114, 110, 32, 121, 32, 43, 32, 97, 59, 32, 125, 32, 118, 111, 105, 100, 32, 103, 50, 40, 41, 32, 123, 32, 112, 114, 105, 110, 116, 32, 34, 66, 34, 59, 32, 115, 117, 112, 101, 114, 46, 103, 50, 40, 41, 59, 32, 112, 114, 105, 110, 116, 32, 121, 59, 32, 125, 32, 125, 10]
def wB2 : List Pr := [.fx ⟨#[114, 101, 116, 117, 114, 110]⟩, .nm ⟨#[121]⟩, .fx ⟨#[43]⟩, .nm ⟨#[97]⟩, .fx ⟨#[59]⟩, .fx ⟨#[125]⟩, .fx ⟨#[118, 111, 105, 100]⟩, .nm ⟨#[103, 50]⟩, .fx ⟨#[40]⟩, .fx ⟨#[41]⟩, .fx ⟨#[123]⟩, .fx ⟨#[112, 114, 105, 110, 116]⟩, .qu ⟨#[66]⟩, .fx ⟨#[59]⟩, .fx ⟨#[115, 117, 112, 101, 114]⟩, .fx ⟨#[46]⟩, .nm ⟨#[103, 50]⟩, .fx ⟨#[40]⟩, .fx ⟨#[41]⟩, .fx ⟨#[59]⟩, .fx ⟨#[112, 114, 105, 110, 116]⟩, .nm ⟨#[121]⟩, .fx ⟨#[59]⟩, .fx ⟨#[125]⟩, .fx ⟨#[125]⟩]
theorem cB2 : segC gB2 99 wB2 := segC_of (by kernel_rfl)
def gC1 : List UInt8 := [99, 108, 97, 115, 115, 32, 67, 32, 101, 120, 116, 101, 110, 100, 115, 32, 66, 32, 123, 32, 105, 110, 116, 32, 120, 32, 61, 32, 57, 59, 32, 67, 40, 41, 32, 123, 32, 115, 117, 112, 101, 114, 40, 51, 41, 59, 32, 125, 32, 118, 111, 105, 100, 32, 103, 50, 40, 41, 32, 123, 32, 115, 117, 112, 101, 114, 46, 103, 50, 40, 41, 59, 32, 105, 110, 116, 32, 97, 32, 61, 32, 50, 59, 32, 65, 32, 111, 32, 61, 32, 110, 59]
def wC1 : List Pr := [.fx ⟨#[99, 108, 97, 115, 115]⟩, .cl ⟨#[67]⟩, .fx ⟨#[101, 120, 116, 101, 110, 100, 115]⟩, .cl ⟨#[66]⟩, .fx ⟨#[123]⟩, .fx ⟨#[105, 110, 116]⟩, .nm ⟨#[120]⟩, .fx ⟨#[61]⟩, .nu ⟨#[57]⟩, .fx ⟨#[59]⟩, .cl ⟨#[67]⟩, .fx ⟨#[40]⟩, .fx ⟨#[41]⟩, .fx ⟨#[123]⟩, .fx ⟨#[115, 117, 112, 101, 114]⟩, .fx ⟨#[40]⟩, .nu ⟨#[51]⟩, .fx ⟨#[41]⟩, .fx ⟨#[59]⟩, .fx ⟨#[125]⟩, .fx ⟨#[118, 111, 105, 100]⟩, .nm ⟨#[103, 50]⟩, .fx ⟨#[40]⟩, .fx ⟨#[41]⟩, .fx ⟨#[123]⟩, .fx ⟨#[115, 117, 112, 101, 114]⟩, .fx ⟨#[46]⟩, .nm ⟨#[103, 50]⟩, .fx ⟨#[40]⟩, .fx ⟨#[41]⟩, .fx ⟨#[59]⟩, .fx ⟨#[105, 110, 116]⟩, .nm ⟨#[97]⟩, .fx ⟨#[61]⟩, .nu ⟨#[50]⟩, .fx ⟨#[59]⟩, .cl ⟨#[65]⟩, .nm ⟨#[111]⟩, .fx ⟨#[61]⟩, .nm ⟨#[110]⟩, .fx ⟨#[59]⟩]
theorem cC1 : segC gC1 32 wC1 := segC_of (by kernel_rfl)
def gC2 : List UInt8 := [32, 125, 32, 125, 10]
def wC2 : List Pr := [.fx ⟨#[125]⟩, .fx ⟨#[125]⟩]
theorem cC2 : segC gC2 99 wC2 := segC_of (by kernel_rfl)
def gTA : List UInt8 := [99, 108, 97, 115, 115, 32, 84, 32, 123, 32, 115, 116, 97, 116, 105, 99, 32, 65, 32, 122, 32, 61, 32, 110, 101, 119, 32, 65, 40, 41, 59, 32, 115, 116, 97, 116, 105, 99, 32, 118, 111, 105, 100, 32, 116, 49, 40, 41, 32, 123, 32, 65, 32, 111, 32, 61, 32, 84, 58, 58, 122, 59, 32, 112, 114, 105, 110, 116, 32, 111, 46, 102, 40, 51, 41, 59, 32, 111, 46, 103, 50, 40, 41, 59, 32, 97, 115, 115, 101, 114, 116, 32, 49, 32, 111, 46, 120, 32, 60, 32, 57, 59, 32, 125, 32, 115, 116, 97, 116, 105, 99, 32, 118, 111, 105, 100, 32, 116, 50, 40, 41, 32, 123, 32, 65, 32, 111, 32, 61, 32, 110, 101, 119, 32, 65, 40, 41, 59]
def wTA : List Pr := [.fx ⟨#[99, 108, 97, 115, 115]⟩, .cl ⟨#[84]⟩, .fx ⟨#[123]⟩, .fx ⟨#[115, 116, 97, 116, 105, 99]⟩, .cl ⟨#[65]⟩, .nm ⟨#[122]⟩, .fx ⟨#[61]⟩, .fx ⟨#[110, 101, 119]⟩, .cl ⟨#[65]⟩, .fx ⟨#[40]⟩, .fx ⟨#[41]⟩, .fx ⟨#[59]⟩, .fx ⟨#[115, 116, 97, 116, 105, 99]⟩, .fx ⟨#[118, 111, 105, 100]⟩, .nm ⟨#[116, 49]⟩, .fx ⟨#[40]⟩, .fx ⟨#[41]⟩, .fx ⟨#[123]⟩, .cl ⟨#[65]⟩, .nm ⟨#[111]⟩, .fx ⟨#[61]⟩, .cl ⟨#[84]⟩, .fx ⟨#[58, 58]⟩, .nm ⟨#[122]⟩, .fx ⟨#[59]⟩, .fx ⟨#[112, 114, 105, 110, 116]⟩, .nm ⟨#[111]⟩, .fx ⟨#[46]⟩, .nm ⟨#[102]⟩, .fx ⟨#[40]⟩, .nu ⟨#[51]⟩, .fx ⟨#[41]⟩, .fx ⟨#[59]⟩, .nm ⟨#[111]⟩, .fx ⟨#[46]⟩, .nm ⟨#[103, 50]⟩, .fx ⟨#[40]⟩, .fx ⟨#[41]⟩, .fx ⟨#[59]⟩, .fx ⟨#[97, 115, 115, 101, 114, 116]⟩, .nu ⟨#[49]⟩, .nm ⟨#[111]⟩, .fx ⟨#[46]⟩, .nm ⟨#[120]⟩, .fx ⟨#[60]⟩, .nu ⟨#[57]⟩, .fx ⟨#[59]⟩, .fx ⟨#[125]⟩, .fx ⟨#[115, 116, 97, 116, 105, 99]⟩, .fx ⟨#[118, 111, 105, 100]⟩, .nm ⟨#[116, 50]⟩, .fx ⟨#[40]⟩, .fx ⟨#[41]⟩, .fx ⟨#[123]⟩, .cl ⟨#[65]⟩, .nm ⟨#[111]⟩, .fx ⟨#[61]⟩, .fx ⟨#[110, 101, 119]⟩, .cl ⟨#[65]⟩, .fx ⟨#[40]⟩, .fx ⟨#[41]⟩, .fx ⟨#[59]⟩]
theorem cTA : segC gTA 32 wTA := segC_of (by kernel_rfl)
def gT2 : List UInt8 := [99, 108, 97, 115, 115, 32, 84, 32, 123, 32, 115, 116, 97, 116, 105, 99, 32, 65, 32, 122, 32, 61, 32, 110, 101, 119, 32, 66, 40, 50, 41, 59, 32, 115, 116, 97, 116, 105, 99, 32, 118, 111, 105, 100, 32, 116, 49, 40, 41, 32, 123, 32, 65, 32, 111, 32, 61, 32, 84, 58, 58, 122, 59, 32, 112, 114, 105, 110, 116, 32, 111, 46, 102, 40, 51, 41, 59, 32, 111, 46, 103, 50, 40, 41, 59, 32, 97, 115, 115, 101, 114, 116, 32, 49, 32, 111, 46, 120, 32, 60, 32, 57, 59, 32, 125, 32, 115, 116, 97, 116, 105, 99, 32, 118, 111, 105, 100, 32, 116, 50, 40, 41, 32, 123, 32, 65, 32, 111, 32, 61, 32, 110, 101, 119, 32, 66, 40, 50, 41, 59]
def wT2 : List Pr := [.fx ⟨#[99, 108, 97, 115, 115]⟩, .cl ⟨#[84]⟩, .fx ⟨#[123]⟩, .fx ⟨#[115, 116, 97, 116, 105, 99]⟩, .cl ⟨#[65]⟩, .nm ⟨#[122]⟩, .fx ⟨#[61]⟩, .fx ⟨#[110, 101, 119]⟩, .cl ⟨#[66]⟩, .fx ⟨#[40]⟩, .nu ⟨#[50]⟩, .fx ⟨#[41]⟩, .fx ⟨#[59]⟩, .fx ⟨#[115, 116, 97, 116, 105, 99]⟩, .fx ⟨#[118, 111, 105, 100]⟩, .nm ⟨#[116, 49]⟩, .fx ⟨#[40]⟩, .fx ⟨#[41]⟩, .fx ⟨#[123]⟩, .cl ⟨#[65]⟩, .nm ⟨#[111]⟩, .fx ⟨#[61]⟩, .cl ⟨#[84]⟩, .fx ⟨#[58, 58]⟩, .nm ⟨#[122]⟩, .fx ⟨#[59]⟩, .fx ⟨#[112, 114, 105, 110, 116]⟩, .nm ⟨#[111]⟩, .fx ⟨#[46]⟩, .nm ⟨#[102]⟩, .fx ⟨#[40]⟩, .nu ⟨#[51]⟩, .fx ⟨#[41]⟩, .fx ⟨#[59]⟩, .nm ⟨#[111]⟩, .fx ⟨#[46]⟩, .nm ⟨#[103, 50]⟩, .fx ⟨#[40]⟩, .fx ⟨#[41]⟩, .fx ⟨#[59]⟩, .fx ⟨#[97, 115, 115, 101, 114, 116]⟩, .nu ⟨#[49]⟩, .nm ⟨#[111]⟩, .fx ⟨#[46]⟩, .nm ⟨#[120]⟩, .fx ⟨#[60]⟩, .nu ⟨#[57]⟩, .fx ⟨#[59]⟩, .fx ⟨#[125]⟩, .fx ⟨#[115, 116, 97, 116, 105, 99]⟩, .fx ⟨#[118, 111, 105, 100]⟩, .nm ⟨#[116, 50]⟩, .fx ⟨#[40]⟩, .fx ⟨#[41]⟩, .fx ⟨#[123]⟩, .cl ⟨#[65]⟩, .nm ⟨#[111]⟩, .fx ⟨#[61]⟩, .fx ⟨#[110, 101, 119]⟩, .cl ⟨#[66]⟩, .fx ⟨#[40]⟩, .nu ⟨#[50]⟩, .fx ⟨#[41]⟩, .fx ⟨#[59]⟩]
theorem cT2 : segC gT2 32 wT2 := segC_of (by kernel_rfl)
def gT0 : List UInt8 := [99, 108, 97, 115, 115, 32, 84, 32, 123, 32, 115, 116, 97, 116, 105, 99, 32, 65, 32, 122, 32, 61, 32, 110, 101, 119, 32, 66, 40, 41, 59, 32, 115, 116, 97, 116, 105, 99, 32, 118, 111, 105, 100, 32, 116, 49, 40, 41, 32, 123, 32, 65, 32, 111, 32, 61, 32, 84, 58, 58, 122, 59, 32, 112, 114, 105, 110, 116, 32, 111, 46, 102, 40, 51, 41, 59, 32, 111, 46, 103, 50, 40, 41, 59, 32, 97, 115, 115, 101, 114, 116, 32, 49, 32, 111, 46, 120, 32, 60, 32, 57, 59, 32, 125, 32, 115, 116, 97, 116, 105, 99, 32, 118, 111, 105, 100, 32, 116, 50, 40, 41, 32, 123, 32, 65, 32, 111, 32, 61, 32, 110, 101, 119, 32, 66, 40, 41, 59]
def wT0 : List Pr := [.fx ⟨#[99, 108, 97, 115, 115]⟩, .cl ⟨#[84]⟩, .fx ⟨#[123]⟩, .fx ⟨#[115, 116, 97, 116, 105, 99]⟩, .cl ⟨#[65]⟩, .nm ⟨#[122]⟩, .fx ⟨#[61]⟩, .fx ⟨#[110, 101, 119]⟩, .cl ⟨#[66]⟩, .fx ⟨#[40]⟩, .fx ⟨#[41]⟩, .fx ⟨#[59]⟩, .fx ⟨#[115, 116, 97, 116, 105, 99]⟩, .fx ⟨#[118, 111, 105, 100]⟩, .nm ⟨#[116, 49]⟩, .fx ⟨#[40]⟩, .fx ⟨#[41]⟩, .fx ⟨#[123]⟩, .cl ⟨#[65]⟩, .nm ⟨#[111]⟩, .fx ⟨#[61]⟩, .cl ⟨#[84]⟩, .fx ⟨#[58, 58]⟩, .nm ⟨#[122]⟩, .fx ⟨#[59]⟩, .fx ⟨#[112, 114, 105, 110, 116]⟩, .nm ⟨#[111]⟩, .fx ⟨#[46]⟩, .nm ⟨#[102]⟩, .fx ⟨#[40]⟩, .nu ⟨#[51]⟩, .fx ⟨#[41]⟩, .fx ⟨#[59]⟩, .nm ⟨#[111]⟩, .fx ⟨#[46]⟩, .nm ⟨#[103, 50]⟩, .fx ⟨#[40]⟩, .fx ⟨#[41]⟩, .fx ⟨#[59]⟩, .fx ⟨#[97, 115, 115, 101, 114, 116]⟩, .nu ⟨#[49]⟩, .nm ⟨#[111]⟩, .fx ⟨#[46]⟩, .nm ⟨#[120]⟩, .fx ⟨#[60]⟩, .nu ⟨#[57]⟩, .fx ⟨#[59]⟩, .fx ⟨#[125]⟩, .fx ⟨#[115, 116, 97, 116, 105, 99]⟩, .fx ⟨#[118, 111, 105, 100]⟩, .nm ⟨#[116, 50]⟩, .fx ⟨#[40]⟩, .fx ⟨#[41]⟩, .fx ⟨#[123]⟩, .cl ⟨#[65]⟩, .nm ⟨#[111]⟩, .fx ⟨#[61]⟩, .fx ⟨#[110, 101, 119]⟩, .cl ⟨#[66]⟩, .fx ⟨#[40]⟩, .fx ⟨#[41]⟩, .fx ⟨#[59]⟩]
theorem cT0 : segC gT0 32 wT0 := segC_of (by kernel_rfl)
def gTC : List UInt8 := [99, 108, 97, 115, 115, 32, 84, 32, 123, 32, 115, 116, 97, 116, 105, 99, 32, 65, 32, 122, 32, 61, 32, 110, 101, 119, 32, 67, 40, 41, 59, 32, 115, 116, 97, 116, 105, 99, 32, 118, 111, 105, 100, 32, 116, 49, 40, 41, 32, 123, 32, 65, 32, 111, 32, 61, 32, 84, 58, 58, 122, 59, 32, 112, 114, 105, 110, 116, 32, 111, 46, 102, 40, 51, 41, 59, 32, 111, 46, 103, 50, 40, 41, 59, 32, 97, 115, 115, 101, 114, 116, 32, 49, 32, 111, 46, 120, 32, 60, 32, 57, 59, 32, 125, 32, 115, 116, 97, 116, 105, 99, 32, 118, 111, 105, 100, 32, 116, 50, 40, 41, 32, 123, 32, 65, 32, 111, 32, 61, 32, 110, 101, 119, 32, 67, 40, 41, 59]
def wTC : List Pr := [.fx ⟨#[99, 108, 97, 115, 115]⟩, .cl ⟨#[84]⟩, .fx ⟨#[123]⟩, .fx ⟨#[115, 116, 97, 116, 105, 99]⟩, .cl ⟨#[65]⟩, .nm ⟨#[122]⟩, .fx ⟨#[61]⟩, .fx ⟨#[110, 101, 119]⟩, .cl ⟨#[67]⟩, .fx ⟨#[40]⟩, .fx ⟨#[41]⟩, .fx ⟨#[59]⟩, .fx ⟨#[115, 116, 97, 116, 105, 99]⟩, .fx ⟨#[118, 111, 105, 100]⟩, .nm ⟨#[116, 49]⟩, .fx ⟨#[40]⟩, .fx ⟨#[41]⟩, .fx ⟨#[123]⟩, .cl ⟨#[65]⟩, .nm ⟨#[111]⟩, .fx ⟨#[61]⟩, .cl ⟨#[84]⟩, .fx ⟨#[58, 58]⟩, .nm ⟨#[122]⟩, .fx ⟨#[59]⟩, .fx ⟨#[112, 114, 105, 110, 116]⟩, .nm ⟨#[111]⟩, .fx ⟨#[46]⟩, .nm ⟨#[102]⟩, .fx ⟨#[40]⟩, .nu ⟨#[51]⟩, .fx ⟨#[41]⟩, .fx ⟨#[59]⟩, .nm ⟨#[111]⟩, .fx ⟨#[46]⟩, .nm ⟨#[103, 50]⟩, .fx ⟨#[40]⟩, .fx ⟨#[41]⟩, .fx ⟨#[59]⟩, .fx ⟨#[97, 115, 115, 101, 114, 116]⟩, .nu ⟨#[49]⟩, .nm ⟨#[111]⟩, .fx ⟨#[46]⟩, .nm ⟨#[120]⟩, .fx ⟨#[60]⟩, .nu ⟨#[57]⟩, .fx ⟨#[59]⟩, .fx ⟨#[125]⟩, .fx ⟨#[115, 116, 97, 116, 105, 99]⟩, .fx ⟨#[118, 111, 105, 100]⟩, .nm ⟨#[116, 50]⟩, .fx ⟨#[40]⟩, .fx ⟨#[41]⟩, .fx ⟨#[123]⟩, .cl ⟨#[65]⟩, .nm ⟨#[111]⟩, .fx ⟨#[61]⟩, .fx ⟨#[110, 101, 119]⟩, .cl ⟨#[67]⟩, .fx ⟨#[40]⟩, .fx ⟨#[41]⟩, .fx ⟨#[59]⟩]
theorem cTC : segC gTC 32 wTC := segC_of (by kernel_rfl)
def gT4 : List UInt8 := [32, 125, 32, 125]
def wT4 : List Pr := [.fx ⟨#[125]⟩, .fx ⟨#[125]⟩]
theorem cT4 : segC gT4 10 wT4 := segC_of (by kernel_rfl)
def gI0 : List UInt8 := [32, 120, 32, 61, 32, 97, 32, 43, 32, 49, 59]
def wI0 : List Pr := [.nm ⟨#[120]⟩, .fx ⟨#[61]⟩, .nm ⟨#[97]⟩, .fx ⟨#[43]⟩, .nu ⟨#[49]⟩, .fx ⟨#[59]⟩]
theorem cI0 : segC gI0 32 wI0 := segC_of (by kernel_rfl)
def gI1 : List UInt8 := [32, 112, 114, 105, 110, 116, 32, 120, 59]
def wI1 : List Pr := [.fx ⟨#[112, 114, 105, 110, 116]⟩, .nm ⟨#[120]⟩, .fx ⟨#[59]⟩]
theorem cI1 : segC gI1 32 wI1 := segC_of (by kernel_rfl)
def gI2 : List UInt8 := [32, 116, 104, 105, 115, 46, 120, 32, 61, 32, 120, 32, 42, 32, 50, 59]
def wI2 : List Pr := [.fx ⟨#[116, 104, 105, 115]⟩, .fx ⟨#[46]⟩, .nm ⟨#[120]⟩, .fx ⟨#[61]⟩, .nm ⟨#[120]⟩, .fx ⟨#[42]⟩, .nu ⟨#[50]⟩, .fx ⟨#[59]⟩]
theorem cI2 : segC gI2 32 wI2 := segC_of (by kernel_rfl)
def gI3 : List UInt8 := [32, 110, 32, 61, 32, 111, 59]
def wI3 : List Pr := [.nm ⟨#[110]⟩, .fx ⟨#[61]⟩, .nm ⟨#[111]⟩, .fx ⟨#[59]⟩]
theorem cI3 : segC gI3 32 wI3 := segC_of (by kernel_rfl)
def gI4 : List UInt8 := [32, 110, 32, 61, 32, 110, 59]
def wI4 : List Pr := [.nm ⟨#[110]⟩, .fx ⟨#[61]⟩, .nm ⟨#[110]⟩, .fx ⟨#[59]⟩]
theorem cI4 : segC gI4 32 wI4 := segC_of (by kernel_rfl)
def gI5 : List UInt8 := [32, 110, 32, 61, 32, 110, 101, 119, 32, 65, 40, 41, 59]
def wI5 : List Pr := [.nm ⟨#[110]⟩, .fx ⟨#[61]⟩, .fx ⟨#[110, 101, 119]⟩, .cl ⟨#[65]⟩, .fx ⟨#[40]⟩, .fx ⟨#[41]⟩, .fx ⟨#[59]⟩]
theorem cI5 : segC gI5 32 wI5 := segC_of (by kernel_rfl)
def gI6 : List UInt8 := [32, 105, 102, 32, 40, 120, 32, 60, 32, 97, 41, 32, 123, 32, 120, 32, 61, 32, 120, 32, 43, 32, 49, 59, 32, 125, 32, 101, 108, 115, 101, 32, 123, 32, 112, 114, 105, 110, 116, 32, 34, 110, 111, 34, 59, 32, 125]
def wI6 : List Pr := [.fx ⟨#[105, 102]⟩, .fx ⟨#[40]⟩, .nm ⟨#[120]⟩, .fx ⟨#[60]⟩, .nm ⟨#[97]⟩, .fx ⟨#[41]⟩, .fx ⟨#[123]⟩, .nm ⟨#[120]⟩, .fx ⟨#[61]⟩, .nm ⟨#[120]⟩, .fx ⟨#[43]⟩, .nu ⟨#[49]⟩, .fx ⟨#[59]⟩, .fx ⟨#[125]⟩, .fx ⟨#[101, 108, 115, 101]⟩, .fx ⟨#[123]⟩, .fx ⟨#[112, 114, 105, 110, 116]⟩, .qu ⟨#[110, 111]⟩, .fx ⟨#[59]⟩, .fx ⟨#[125]⟩]
theorem cI6 : segC gI6 32 wI6 := segC_of (by kernel_rfl)
def gI7 : List UInt8 := [32, 119, 104, 105, 108, 101, 32, 40, 120, 32, 60, 32, 51, 41, 32, 123, 32, 120, 32, 61, 32, 120, 32, 43, 32, 49, 59, 32, 112, 114, 105, 110, 116, 32, 120, 59, 32, 125]
def wI7 : List Pr := [.fx ⟨#[119, 104, 105, 108, 101]⟩, .fx ⟨#[40]⟩, .nm ⟨#[120]⟩, .fx ⟨#[60]⟩, .nu ⟨#[51]⟩, .fx ⟨#[41]⟩, .fx ⟨#[123]⟩, .nm ⟨#[120]⟩, .fx ⟨#[61]⟩, .nm ⟨#[120]⟩, .fx ⟨#[43]⟩, .nu ⟨#[49]⟩, .fx ⟨#[59]⟩, .fx ⟨#[112, 114, 105, 110, 116]⟩, .nm ⟨#[120]⟩, .fx ⟨#[59]⟩, .fx ⟨#[125]⟩]
theorem cI7 : segC gI7 32 wI7 := segC_of (by kernel_rfl)
def gI8 : List UInt8 := [32, 115, 32, 61, 32, 115, 32, 43, 32, 49, 59]
def wI8 : List Pr := [.nm ⟨#[115]⟩, .fx ⟨#[61]⟩, .nm ⟨#[115]⟩, .fx ⟨#[43]⟩, .nu ⟨#[49]⟩, .fx ⟨#[59]⟩]
theorem cI8 : segC gI8 32 wI8 := segC_of (by kernel_rfl)
def gI9 : List UInt8 := [32, 65, 58, 58, 115, 32, 61, 32, 97, 59]
def wI9 : List Pr := [.cl ⟨#[65]⟩, .fx ⟨#[58, 58]⟩, .nm ⟨#[115]⟩, .fx ⟨#[61]⟩, .nm ⟨#[97]⟩, .fx ⟨#[59]⟩]
theorem cI9 : segC gI9 32 wI9 := segC_of (by kernel_rfl)
def gI10 : List UInt8 := [32, 116, 114, 121, 32, 123, 32, 112, 114, 105, 110, 116, 32, 111, 46, 102, 40, 97, 41, 59, 32, 125, 32, 99, 97, 116, 99, 104, 32, 40, 78, 117, 108, 108, 70, 97, 117, 108, 116, 32, 101, 41, 32, 123, 32, 112, 114, 105, 110, 116, 32, 34, 110, 117, 108, 108, 34, 59, 32, 125, 32, 102, 105, 110, 97, 108, 108, 121, 32, 123, 32, 120, 32, 61, 32, 48, 59, 32, 125]
def wI10 : List Pr := [.fx ⟨#[116, 114, 121]⟩, .fx ⟨#[123]⟩, .fx ⟨#[112, 114, 105, 110, 116]⟩, .nm ⟨#[111]⟩, .fx ⟨#[46]⟩, .nm ⟨#[102]⟩, .fx ⟨#[40]⟩, .nm ⟨#[97]⟩, .fx ⟨#[41]⟩, .fx ⟨#[59]⟩, .fx ⟨#[125]⟩, .fx ⟨#[99, 97, 116, 99, 104]⟩, .fx ⟨#[40]⟩, .cl ⟨#[78, 117, 108, 108, 70, 97, 117, 108, 116]⟩, .nm ⟨#[101]⟩, .fx ⟨#[41]⟩, .fx ⟨#[123]⟩, .fx ⟨#[112, 114, 105, 110, 116]⟩, .qu ⟨#[110, 117, 108, 108]⟩, .fx ⟨#[59]⟩, .fx ⟨#[125]⟩, .fx ⟨#[102, 105, 110, 97, 108, 108, 121]⟩, .fx ⟨#[123]⟩, .nm ⟨#[120]⟩, .fx ⟨#[61]⟩, .nu ⟨#[48]⟩, .fx ⟨#[59]⟩, .fx ⟨#[125]⟩]
theorem cI10 : segC gI10 32 wI10 := segC_of (by kernel_rfl)
def gI11 : List UInt8 := [32, 105, 102, 32, 40, 97, 32, 60, 32, 48, 41, 32, 123, 32, 116, 104, 114, 111, 119, 32, 110, 101, 119, 32, 90, 101, 114, 111, 70, 97, 117, 108, 116, 40, 41, 59, 32, 125]
def wI11 : List Pr := [.fx ⟨#[105, 102]⟩, .fx ⟨#[40]⟩, .nm ⟨#[97]⟩, .fx ⟨#[60]⟩, .nu ⟨#[48]⟩, .fx ⟨#[41]⟩, .fx ⟨#[123]⟩, .fx ⟨#[116, 104, 114, 111, 119]⟩, .fx ⟨#[110, 101, 119]⟩, .cl ⟨#[90, 101, 114, 111, 70, 97, 117, 108, 116]⟩, .fx ⟨#[40]⟩, .fx ⟨#[41]⟩, .fx ⟨#[59]⟩, .fx ⟨#[125]⟩]
theorem cI11 : segC gI11 32 wI11 := segC_of (by kernel_rfl)
def gI12 : List UInt8 := [32, 112, 114, 105, 110, 116, 32, 55, 32, 47, 32, 97, 59]
def wI12 : List Pr := [.fx ⟨#[112, 114, 105, 110, 116]⟩, .nu ⟨#[55]⟩, .fx ⟨#[47]⟩, .nm ⟨#[97]⟩, .fx ⟨#[59]⟩]
theorem cI12 : segC gI12 32 wI12 := segC_of (by kernel_rfl)
def gI13 : List UInt8 := [32, 105, 102, 32, 40, 48, 32, 60, 32, 97, 41, 32, 123, 32, 112, 114, 105, 110, 116, 32, 102, 40, 97, 32, 45, 32, 49, 41, 59, 32, 125]
def wI13 : List Pr := [.fx ⟨#[105, 102]⟩, .fx ⟨#[40]⟩, .nu ⟨#[48]⟩, .fx ⟨#[60]⟩, .nm ⟨#[97]⟩, .fx ⟨#[41]⟩, .fx ⟨#[123]⟩, .fx ⟨#[112, 114, 105, 110, 116]⟩, .nm ⟨#[102]⟩, .fx ⟨#[40]⟩, .nm ⟨#[97]⟩, .fx ⟨#[45]⟩, .nu ⟨#[49]⟩, .fx ⟨#[41]⟩, .fx ⟨#[59]⟩, .fx ⟨#[125]⟩]
theorem cI13 : segC gI13 32 wI13 := segC_of (by kernel_rfl)
def gI14 : List UInt8 := [32, 97, 115, 115, 101, 114, 116, 32, 51, 32, 120, 32, 60, 32, 57, 59]
def wI14 : List Pr := [.fx ⟨#[97, 115, 115, 101, 114, 116]⟩, .nu ⟨#[51]⟩, .nm ⟨#[120]⟩, .fx ⟨#[60]⟩, .nu ⟨#[57]⟩, .fx ⟨#[59]⟩]
theorem cI14 : segC gI14 32 wI14 := segC_of (by kernel_rfl)
def gI15 : List UInt8 := [32, 112, 114, 105, 110, 116, 32, 111, 32, 105, 115, 32, 65, 59]
def wI15 : List Pr := [.fx ⟨#[112, 114, 105, 110, 116]⟩, .nm ⟨#[111]⟩, .fx ⟨#[105, 115]⟩, .cl ⟨#[65]⟩, .fx ⟨#[59]⟩]
theorem cI15 : segC gI15 32 wI15 := segC_of (by kernel_rfl)
def gI16 : List UInt8 := [32, 105, 102, 32, 40, 116, 114, 117, 101, 41, 32, 123, 32, 105, 110, 116, 32, 118, 32, 61, 32, 102, 40, 110, 41, 59, 32, 112, 114, 105, 110, 116, 32, 118, 59, 32, 125]
def wI16 : List Pr := [.fx ⟨#[105, 102]⟩, .fx ⟨#[40]⟩, .fx ⟨#[116, 114, 117, 101]⟩, .fx ⟨#[41]⟩, .fx ⟨#[123]⟩, .fx ⟨#[105, 110, 116]⟩, .nm ⟨#[118]⟩, .fx ⟨#[61]⟩, .nm ⟨#[102]⟩, .fx ⟨#[40]⟩, .nm ⟨#[110]⟩, .fx ⟨#[41]⟩, .fx ⟨#[59]⟩, .fx ⟨#[112, 114, 105, 110, 116]⟩, .nm ⟨#[118]⟩, .fx ⟨#[59]⟩, .fx ⟨#[125]⟩]
theorem cI16 : segC gI16 32 wI16 := segC_of (by kernel_rfl)
def gI17 : List UInt8 := [32, 112, 114, 105, 110, 116, 32, 119, 32, 43, 32, 120, 32, 43, 32, 116, 114, 117, 101, 59]
def wI17 : List Pr := [.fx ⟨#[112, 114, 105, 110, 116]⟩, .nm ⟨#[119]⟩, .fx ⟨#[43]⟩, .nm ⟨#[120]⟩, .fx ⟨#[43]⟩, .fx ⟨#[116, 114, 117, 101]⟩, .fx ⟨#[59]⟩]
theorem cI17 : segC gI17 32 wI17 := segC_of (by kernel_rfl)
def gI18 : List UInt8 := [32, 112, 114, 105, 110, 116, 32, 34, 104, 195, 169, 121, 34, 32, 64, 32, 97, 59]
def wI18 : List Pr := [.fx ⟨#[112, 114, 105, 110, 116]⟩, .qu ⟨#[104, 195, 169, 121]⟩, .fx ⟨#[64]⟩, .nm ⟨#[97]⟩, .fx ⟨#[59]⟩]
theorem cI18 : segC gI18 32 wI18 := segC_of (by kernel_rfl)
def gI19 : List UInt8 := [32, 112, 114, 105, 110, 116, 32, 35, 119, 59]
def wI19 : List Pr := [.fx ⟨#[112, 114, 105, 110, 116]⟩, .fx ⟨#[35]⟩, .nm ⟨#[119]⟩, .fx ⟨#[59]⟩]
theorem cI19 : segC gI19 32 wI19 := segC_of (by kernel_rfl)
def gI20 : List UInt8 := [32, 112, 114, 105, 110, 116, 32, 102, 40, 97, 44, 32, 50, 41, 59]
def wI20 : List Pr := [.fx ⟨#[112, 114, 105, 110, 116]⟩, .nm ⟨#[102]⟩, .fx ⟨#[40]⟩, .nm ⟨#[97]⟩, .fx ⟨#[44]⟩, .nu ⟨#[50]⟩, .fx ⟨#[41]⟩, .fx ⟨#[59]⟩]
theorem cI20 : segC gI20 32 wI20 := segC_of (by kernel_rfl)
def gI21 : List UInt8 := [32, 116, 104, 105, 115, 46, 103, 50, 40, 41, 59]
def wI21 : List Pr := [.fx ⟨#[116, 104, 105, 115]⟩, .fx ⟨#[46]⟩, .nm ⟨#[103, 50]⟩, .fx ⟨#[40]⟩, .fx ⟨#[41]⟩, .fx ⟨#[59]⟩]
theorem cI21 : segC gI21 32 wI21 := segC_of (by kernel_rfl)
def gI22 : List UInt8 := [32, 112, 114, 105, 110, 116, 32, 65, 58, 58, 107, 40, 97, 41, 59]
def wI22 : List Pr := [.fx ⟨#[112, 114, 105, 110, 116]⟩, .cl ⟨#[65]⟩, .fx ⟨#[58, 58]⟩, .nm ⟨#[107]⟩, .fx ⟨#[40]⟩, .nm ⟨#[97]⟩, .fx ⟨#[41]⟩, .fx ⟨#[59]⟩]
theorem cI22 : segC gI22 32 wI22 := segC_of (by kernel_rfl)
def gI23 : List UInt8 := [32, 116, 114, 121, 32, 123, 32, 116, 104, 114, 111, 119, 32, 110, 101, 119, 32, 82, 97, 110, 103, 101, 70, 97, 117, 108, 116, 40, 41, 59, 32, 125, 32, 99, 97, 116, 99, 104, 32, 40, 69, 120, 99, 101, 112, 116, 105, 111, 110, 32, 101, 41, 32, 123, 32, 110, 32, 61, 32, 110, 117, 108, 108, 59, 32, 125]
def wI23 : List Pr := [.fx ⟨#[116, 114, 121]⟩, .fx ⟨#[123]⟩, .fx ⟨#[116, 104, 114, 111, 119]⟩, .fx ⟨#[110, 101, 119]⟩, .cl ⟨#[82, 97, 110, 103, 101, 70, 97, 117, 108, 116]⟩, .fx ⟨#[40]⟩, .fx ⟨#[41]⟩, .fx ⟨#[59]⟩, .fx ⟨#[125]⟩, .fx ⟨#[99, 97, 116, 99, 104]⟩, .fx ⟨#[40]⟩, .cl ⟨#[69, 120, 99, 101, 112, 116, 105, 111, 110]⟩, .nm ⟨#[101]⟩, .fx ⟨#[41]⟩, .fx ⟨#[123]⟩, .nm ⟨#[110]⟩, .fx ⟨#[61]⟩, .fx ⟨#[110, 117, 108, 108]⟩, .fx ⟨#[59]⟩, .fx ⟨#[125]⟩]
theorem cI23 : segC gI23 32 wI23 := segC_of (by kernel_rfl)
def gI24 : List UInt8 := [32, 65, 32, 113, 32, 61, 32, 110, 59]
def wI24 : List Pr := [.cl ⟨#[65]⟩, .nm ⟨#[113]⟩, .fx ⟨#[61]⟩, .nm ⟨#[110]⟩, .fx ⟨#[59]⟩]
theorem cI24 : segC gI24 32 wI24 := segC_of (by kernel_rfl)
def gI25 : List UInt8 := [32, 112, 114, 105, 110, 116, 32, 45, 97, 32, 37, 32, 51, 59]
def wI25 : List Pr := [.fx ⟨#[112, 114, 105, 110, 116]⟩, .fx ⟨#[45]⟩, .nm ⟨#[97]⟩, .fx ⟨#[37]⟩, .nu ⟨#[51]⟩, .fx ⟨#[59]⟩]
theorem cI25 : segC gI25 32 wI25 := segC_of (by kernel_rfl)
def gI26 : List UInt8 := [32, 112, 114, 105, 110, 116, 32, 110, 32, 61, 61, 32, 111, 32, 38, 38, 32, 33, 40, 97, 32, 60, 61, 32, 50, 41, 59]
def wI26 : List Pr := [.fx ⟨#[112, 114, 105, 110, 116]⟩, .nm ⟨#[110]⟩, .fx ⟨#[61, 61]⟩, .nm ⟨#[111]⟩, .fx ⟨#[38, 38]⟩, .fx ⟨#[33]⟩, .fx ⟨#[40]⟩, .nm ⟨#[97]⟩, .fx ⟨#[60, 61]⟩, .nu ⟨#[50]⟩, .fx ⟨#[41]⟩, .fx ⟨#[59]⟩]
theorem cI26 : segC gI26 32 wI26 := segC_of (by kernel_rfl)
def gI27 : List UInt8 := [32, 112, 114, 105, 110, 116, 32, 40, 111, 32, 97, 115, 32, 65, 41, 46, 120, 59]
def wI27 : List Pr := [.fx ⟨#[112, 114, 105, 110, 116]⟩, .fx ⟨#[40]⟩, .nm ⟨#[111]⟩, .fx ⟨#[97, 115]⟩, .cl ⟨#[65]⟩, .fx ⟨#[41]⟩, .fx ⟨#[46]⟩, .nm ⟨#[120]⟩, .fx ⟨#[59]⟩]
theorem cI27 : segC gI27 32 wI27 := segC_of (by kernel_rfl)
def gS0 : List UInt8 := [32, 112, 114, 105, 110, 116, 32, 115, 117, 112, 101, 114, 46, 120, 59]
def wS0 : List Pr := [.fx ⟨#[112, 114, 105, 110, 116]⟩, .fx ⟨#[115, 117, 112, 101, 114]⟩, .fx ⟨#[46]⟩, .nm ⟨#[120]⟩, .fx ⟨#[59]⟩]
theorem cS0 : segC gS0 32 wS0 := segC_of (by kernel_rfl)
def gS1 : List UInt8 := [32, 120, 32, 61, 32, 115, 117, 112, 101, 114, 46, 102, 40, 97, 41, 59]
def wS1 : List Pr := [.nm ⟨#[120]⟩, .fx ⟨#[61]⟩, .fx ⟨#[115, 117, 112, 101, 114]⟩, .fx ⟨#[46]⟩, .nm ⟨#[102]⟩, .fx ⟨#[40]⟩, .nm ⟨#[97]⟩, .fx ⟨#[41]⟩, .fx ⟨#[59]⟩]
theorem cS1 : segC gS1 32 wS1 := segC_of (by kernel_rfl)
def gS2 : List UInt8 := [32, 115, 117, 112, 101, 114, 46, 103, 50, 40, 41, 59]
def wS2 : List Pr := [.fx ⟨#[115, 117, 112, 101, 114]⟩, .fx ⟨#[46]⟩, .nm ⟨#[103, 50]⟩, .fx ⟨#[40]⟩, .fx ⟨#[41]⟩, .fx ⟨#[59]⟩]
theorem cS2 : segC gS2 32 wS2 := segC_of (by kernel_rfl)
def gS3 : List UInt8 := [32, 121, 32, 61, 32, 121, 32, 43, 32, 49, 59]
def wS3 : List Pr := [.nm ⟨#[121]⟩, .fx ⟨#[61]⟩, .nm ⟨#[121]⟩, .fx ⟨#[43]⟩, .nu ⟨#[49]⟩, .fx ⟨#[59]⟩]
theorem cS3 : segC gS3 32 wS3 := segC_of (by kernel_rfl)
def gS4 : List UInt8 := [32, 109, 32, 61, 32, 110, 101, 119, 32, 66, 40, 97, 41, 59]
def wS4 : List Pr := [.nm ⟨#[109]⟩, .fx ⟨#[61]⟩, .fx ⟨#[110, 101, 119]⟩, .cl ⟨#[66]⟩, .fx ⟨#[40]⟩, .nm ⟨#[97]⟩, .fx ⟨#[41]⟩, .fx ⟨#[59]⟩]
theorem cS4 : segC gS4 32 wS4 := segC_of (by kernel_rfl)
def gS5 : List UInt8 := [32, 110, 32, 61, 32, 109, 59]
def wS5 : List Pr := [.nm ⟨#[110]⟩, .fx ⟨#[61]⟩, .nm ⟨#[109]⟩, .fx ⟨#[59]⟩]
theorem cS5 : segC gS5 32 wS5 := segC_of (by kernel_rfl)
def gS6 : List UInt8 := [32, 112, 114, 105, 110, 116, 32, 40, 110, 32, 97, 115, 32, 66, 41, 46, 121, 59]
def wS6 : List Pr := [.fx ⟨#[112, 114, 105, 110, 116]⟩, .fx ⟨#[40]⟩, .nm ⟨#[110]⟩, .fx ⟨#[97, 115]⟩, .cl ⟨#[66]⟩, .fx ⟨#[41]⟩, .fx ⟨#[46]⟩, .nm ⟨#[121]⟩, .fx ⟨#[59]⟩]
theorem cS6 : segC gS6 32 wS6 := segC_of (by kernel_rfl)
def gO0 : List UInt8 := [32, 112, 114, 105, 110, 116, 32, 111, 46, 102, 40, 50, 41, 59]
def wO0 : List Pr := [.fx ⟨#[112, 114, 105, 110, 116]⟩, .nm ⟨#[111]⟩, .fx ⟨#[46]⟩, .nm ⟨#[102]⟩, .fx ⟨#[40]⟩, .nu ⟨#[50]⟩, .fx ⟨#[41]⟩, .fx ⟨#[59]⟩]
theorem cO0 : segC gO0 32 wO0 := segC_of (by kernel_rfl)
def gO1 : List UInt8 := [32, 112, 114, 105, 110, 116, 32, 111, 46, 102, 40, 111, 41, 59]
def wO1 : List Pr := [.fx ⟨#[112, 114, 105, 110, 116]⟩, .nm ⟨#[111]⟩, .fx ⟨#[46]⟩, .nm ⟨#[102]⟩, .fx ⟨#[40]⟩, .nm ⟨#[111]⟩, .fx ⟨#[41]⟩, .fx ⟨#[59]⟩]
theorem cO1 : segC gO1 32 wO1 := segC_of (by kernel_rfl)
def gO2 : List UInt8 := [32, 112, 114, 105, 110, 116, 32, 111, 46, 102, 40, 49, 44, 32, 50, 41, 59]
def wO2 : List Pr := [.fx ⟨#[112, 114, 105, 110, 116]⟩, .nm ⟨#[111]⟩, .fx ⟨#[46]⟩, .nm ⟨#[102]⟩, .fx ⟨#[40]⟩, .nu ⟨#[49]⟩, .fx ⟨#[44]⟩, .nu ⟨#[50]⟩, .fx ⟨#[41]⟩, .fx ⟨#[59]⟩]
theorem cO2 : segC gO2 32 wO2 := segC_of (by kernel_rfl)
def gO3 : List UInt8 := [32, 111, 46, 103, 50, 40, 41, 59]
def wO3 : List Pr := [.nm ⟨#[111]⟩, .fx ⟨#[46]⟩, .nm ⟨#[103, 50]⟩, .fx ⟨#[40]⟩, .fx ⟨#[41]⟩, .fx ⟨#[59]⟩]
theorem cO3 : segC gO3 32 wO3 := segC_of (by kernel_rfl)
def gO4 : List UInt8 := [32, 111, 46, 110, 32, 61, 32, 111, 59]
def wO4 : List Pr := [.nm ⟨#[111]⟩, .fx ⟨#[46]⟩, .nm ⟨#[110]⟩, .fx ⟨#[61]⟩, .nm ⟨#[111]⟩, .fx ⟨#[59]⟩]
theorem cO4 : segC gO4 32 wO4 := segC_of (by kernel_rfl)
def gO5 : List UInt8 := [32, 112, 114, 105, 110, 116, 32, 111, 46, 110, 46, 120, 59]
def wO5 : List Pr := [.fx ⟨#[112, 114, 105, 110, 116]⟩, .nm ⟨#[111]⟩, .fx ⟨#[46]⟩, .nm ⟨#[110]⟩, .fx ⟨#[46]⟩, .nm ⟨#[120]⟩, .fx ⟨#[59]⟩]
theorem cO5 : segC gO5 32 wO5 := segC_of (by kernel_rfl)
def gO6 : List UInt8 := [32, 112, 114, 105, 110, 116, 32, 65, 58, 58, 115, 59]
def wO6 : List Pr := [.fx ⟨#[112, 114, 105, 110, 116]⟩, .cl ⟨#[65]⟩, .fx ⟨#[58, 58]⟩, .nm ⟨#[115]⟩, .fx ⟨#[59]⟩]
theorem cO6 : segC gO6 32 wO6 := segC_of (by kernel_rfl)
def gO7 : List UInt8 := [32, 97, 115, 115, 101, 114, 116, 32, 50, 32, 65, 58, 58, 107, 40, 51, 41, 32, 60, 32, 55, 59]
def wO7 : List Pr := [.fx ⟨#[97, 115, 115, 101, 114, 116]⟩, .nu ⟨#[50]⟩, .cl ⟨#[65]⟩, .fx ⟨#[58, 58]⟩, .nm ⟨#[107]⟩, .fx ⟨#[40]⟩, .nu ⟨#[51]⟩, .fx ⟨#[41]⟩, .fx ⟨#[60]⟩, .nu ⟨#[55]⟩, .fx ⟨#[59]⟩]
theorem cO7 : segC gO7 32 wO7 := segC_of (by kernel_rfl)
def gO8 : List UInt8 := [32, 116, 114, 121, 32, 123, 32, 111, 46, 110, 46, 103, 50, 40, 41, 59, 32, 125, 32, 99, 97, 116, 99, 104, 32, 40, 78, 117, 108, 108, 70, 97, 117, 108, 116, 32, 101, 41, 32, 123, 32, 112, 114, 105, 110, 116, 32, 34, 110, 34, 59, 32, 125]
def wO8 : List Pr := [.fx ⟨#[116, 114, 121]⟩, .fx ⟨#[123]⟩, .nm ⟨#[111]⟩, .fx ⟨#[46]⟩, .nm ⟨#[110]⟩, .fx ⟨#[46]⟩, .nm ⟨#[103, 50]⟩, .fx ⟨#[40]⟩, .fx ⟨#[41]⟩, .fx ⟨#[59]⟩, .fx ⟨#[125]⟩, .fx ⟨#[99, 97, 116, 99, 104]⟩, .fx ⟨#[40]⟩, .cl ⟨#[78, 117, 108, 108, 70, 97, 117, 108, 116]⟩, .nm ⟨#[101]⟩, .fx ⟨#[41]⟩, .fx ⟨#[123]⟩, .fx ⟨#[112, 114, 105, 110, 116]⟩, .qu ⟨#[110]⟩, .fx ⟨#[59]⟩, .fx ⟨#[125]⟩]
theorem cO8 : segC gO8 32 wO8 := segC_of (by kernel_rfl)
def gO9 : List UInt8 := [32, 119, 104, 105, 108, 101, 32, 40, 65, 58, 58, 115, 32, 60, 32, 53, 41, 32, 123, 32, 65, 58, 58, 115, 32, 61, 32, 65, 58, 58, 115, 32, 43, 32, 49, 59, 32, 125]
def wO9 : List Pr := [.fx ⟨#[119, 104, 105, 108, 101]⟩, .fx ⟨#[40]⟩, .cl ⟨#[65]⟩, .fx ⟨#[58, 58]⟩, .nm ⟨#[115]⟩, .fx ⟨#[60]⟩, .nu ⟨#[53]⟩, .fx ⟨#[41]⟩, .fx ⟨#[123]⟩, .cl ⟨#[65]⟩, .fx ⟨#[58, 58]⟩, .nm ⟨#[115]⟩, .fx ⟨#[61]⟩, .cl ⟨#[65]⟩, .fx ⟨#[58, 58]⟩, .nm ⟨#[115]⟩, .fx ⟨#[43]⟩, .nu ⟨#[49]⟩, .fx ⟨#[59]⟩, .fx ⟨#[125]⟩]
theorem cO9 : segC gO9 32 wO9 := segC_of (by kernel_rfl)
def gO10 : List UInt8 := [32, 112, 114, 105, 110, 116, 32, 111, 46, 119, 32, 43, 32, 35, 111, 46, 119, 59]
def wO10 : List Pr := [.fx ⟨#[112, 114, 105, 110, 116]⟩, .nm ⟨#[111]⟩, .fx ⟨#[46]⟩, .nm ⟨#[119]⟩, .fx ⟨#[43]⟩, .fx ⟨#[35]⟩, .nm ⟨#[111]⟩, .fx ⟨#[46]⟩, .nm ⟨#[119]⟩, .fx ⟨#[59]⟩]
theorem cO10 : segC gO10 32 wO10 := segC_of (by kernel_rfl)
def gO11 : List UInt8 := [32, 112, 114, 105, 110, 116, 32, 111, 32, 105, 115, 32, 65, 59]
def wO11 : List Pr := [.fx ⟨#[112, 114, 105, 110, 116]⟩, .nm ⟨#[111]⟩, .fx ⟨#[105, 115]⟩, .cl ⟨#[65]⟩, .fx ⟨#[59]⟩]
theorem cO11 : segC gO11 32 wO11 := segC_of (by kernel_rfl)
end
set_option maxRecDepth 100000
section
open Go.RowKit
def Z (P : List Pr) : List Pl := P.map fun x => (x, 0)
def S1 (op : Int) (P : List Pr) : RS := ⟨Z P, 0, op, 0, 0, 0, 0⟩
def fol : List Pr := [.nm ⟨#[120]⟩, .fx ⟨#[112, 114, 105, 110, 116]⟩, .fx ⟨#[116, 104, 105, 115]⟩, .nm ⟨#[110]⟩, .fx ⟨#[105, 102]⟩, .fx ⟨#[119, 104, 105, 108, 101]⟩, .nm ⟨#[115]⟩, .cl ⟨#[65]⟩, .fx ⟨#[116, 114, 121]⟩, .fx ⟨#[97, 115, 115, 101, 114, 116]⟩, .fx ⟨#[115, 117, 112, 101, 114]⟩, .nm ⟨#[121]⟩, .nm ⟨#[109]⟩, .nm ⟨#[111]⟩, .cl ⟨#[67]⟩, .fx ⟨#[105, 110, 116]⟩, .fx ⟨#[114, 101, 116, 117, 114, 110]⟩, .fx ⟨#[125]⟩]
structure Good (w : List Pr) (x : Nd) : Prop where
 fit : fitsS x false = true
 unt : ∀ R, (S1 1 (w ++ R)).until sKet = true
 red : ∀ (n : Nat) (y : Pr) (R : List Pr), y ∈ fol → stS (runS (n + 6) (.body false)) (S1 1 (w ++ y :: R)) = (x, S1 1 (y :: R))
theorem red_of {w : List Pr} {x : Nd} (h : ∀ (n : Nat) (R : List Pr), fol.map (fun y => stS (runS (n + 6) (.body false)) (S1 1 (w ++ y :: R))) = fol.map fun y => (x, S1 1 (y :: R))) (n : Nat) (y : Pr) (R : List Pr) (hy : y ∈ fol) :
   stS (runS (n + 6) (.body false)) (S1 1 (w ++ y :: R)) = (x, S1 1 (y :: R)) := List.map_inj_left.1 (h n R) y hy
theorem red_all {w : List Pr} {x : Nd} (h : ∀ (n : Nat) (X : List Pr), stS (runS (n + 6) (.body false)) (S1 1 (w ++ X)) = (x, S1 1 X)) (n : Nat) (y : Pr) (R : List Pr) (hy : y ∈ fol) :
   stS (runS (n + 6) (.body false)) (S1 1 (w ++ y :: R)) = (x, S1 1 (y :: R)) := h n (y :: R)
def nI0 : Nd := mkS 2 0 E0 E0 [mkE 6 0 E0 ⟨#[120]⟩ E0 [], mkE 17 0 E0 ⟨#[43]⟩ E0 [mkE 6 0 E0 ⟨#[97]⟩ E0 [], mkE 1 1 E0 E0 E0 []]] [] [] []
theorem goodI0 : Good wI0 nI0 := ⟨by kernel_rfl, fun R => by kernel_rfl, red_all fun n X => by kernel_rfl⟩
def nI1 : Nd := mkS 7 0 E0 E0 [mkE 6 0 E0 ⟨#[120]⟩ E0 []] [] [] []
theorem goodI1 : Good wI1 nI1 := ⟨by kernel_rfl, fun R => by kernel_rfl, red_all fun n X => by kernel_rfl⟩
def nI2 : Nd := mkS 2 0 E0 E0 [mkE 7 0 E0 ⟨#[120]⟩ E0 [mkE 5 0 E0 E0 E0 []], mkE 17 0 E0 ⟨#[42]⟩ E0 [mkE 6 0 E0 ⟨#[120]⟩ E0 [], mkE 1 2 E0 E0 E0 []]] [] [] []
theorem goodI2 : Good wI2 nI2 := ⟨by kernel_rfl, fun R => by kernel_rfl, red_all fun n X => by kernel_rfl⟩
def nI3 : Nd := mkS 2 0 E0 E0 [mkE 6 0 E0 ⟨#[110]⟩ E0 [], mkE 6 0 E0 ⟨#[111]⟩ E0 []] [] [] []
theorem goodI3 : Good wI3 nI3 := ⟨by kernel_rfl, fun R => by kernel_rfl, red_all fun n X => by kernel_rfl⟩
def nI4 : Nd := mkS 2 0 E0 E0 [mkE 6 0 E0 ⟨#[110]⟩ E0 [], mkE 6 0 E0 ⟨#[110]⟩ E0 []] [] [] []
theorem goodI4 : Good wI4 nI4 := ⟨by kernel_rfl, fun R => by kernel_rfl, red_all fun n X => by kernel_rfl⟩
def nI5 : Nd := mkS 2 0 E0 E0 [mkE 6 0 E0 ⟨#[110]⟩ E0 [], mkE 14 0 E0 E0 ⟨#[65]⟩ []] [] [] []
theorem goodI5 : Good wI5 nI5 := ⟨by kernel_rfl, fun R => by kernel_rfl, red_all fun n X => by kernel_rfl⟩
def nI6 : Nd := mkS 4 0 E0 E0 [mkE 17 0 E0 ⟨#[60]⟩ E0 [mkE 6 0 E0 ⟨#[120]⟩ E0 [], mkE 6 0 E0 ⟨#[97]⟩ E0 []]] [mkS 2 0 E0 E0 [mkE 6 0 E0 ⟨#[120]⟩ E0 [], mkE 17 0 E0 ⟨#[43]⟩ E0 [mkE 6 0 E0 ⟨#[120]⟩ E0 [], mkE 1 1 E0 E0 E0 []]] [] [] []] [mkS 7 0 E0 E0 [mkE 3 0 ⟨#[110, 111]⟩ E0 E0 []] [] [] []] []
theorem goodI6 : Good wI6 nI6 := ⟨by kernel_rfl, fun R => by kernel_rfl, red_all fun n X => by kernel_rfl⟩
def nI7 : Nd := mkS 5 0 E0 E0 [mkE 17 0 E0 ⟨#[60]⟩ E0 [mkE 6 0 E0 ⟨#[120]⟩ E0 [], mkE 1 3 E0 E0 E0 []]] [mkS 2 0 E0 E0 [mkE 6 0 E0 ⟨#[120]⟩ E0 [], mkE 17 0 E0 ⟨#[43]⟩ E0 [mkE 6 0 E0 ⟨#[120]⟩ E0 [], mkE 1 1 E0 E0 E0 []]] [] [] [], mkS 7 0 E0 E0 [mkE 6 0 E0 ⟨#[120]⟩ E0 []] [] [] []] [] []
theorem goodI7 : Good wI7 nI7 := ⟨by kernel_rfl, fun R => by kernel_rfl, red_all fun n X => by kernel_rfl⟩
def nI8 : Nd := mkS 2 0 E0 E0 [mkE 6 0 E0 ⟨#[115]⟩ E0 [], mkE 17 0 E0 ⟨#[43]⟩ E0 [mkE 6 0 E0 ⟨#[115]⟩ E0 [], mkE 1 1 E0 E0 E0 []]] [] [] []
theorem goodI8 : Good wI8 nI8 := ⟨by kernel_rfl, fun R => by kernel_rfl, red_all fun n X => by kernel_rfl⟩
def nI9 : Nd := mkS 2 0 E0 E0 [mkE 9 0 E0 ⟨#[115]⟩ ⟨#[65]⟩ [], mkE 6 0 E0 ⟨#[97]⟩ E0 []] [] [] []
theorem goodI9 : Good wI9 nI9 := ⟨by kernel_rfl, fun R => by kernel_rfl, red_all fun n X => by kernel_rfl⟩
def nI10 : Nd := mkS 10 0 ⟨#[78, 117, 108, 108, 70, 97, 117, 108, 116]⟩ ⟨#[101]⟩ [] [mkS 7 0 E0 E0 [mkE 10 0 E0 ⟨#[102]⟩ E0 [mkE 6 0 E0 ⟨#[111]⟩ E0 [], mkE 6 0 E0 ⟨#[97]⟩ E0 []]] [] [] []] [mkS 7 0 E0 E0 [mkE 3 0 ⟨#[110, 117, 108, 108]⟩ E0 E0 []] [] [] []] [mkS 2 0 E0 E0 [mkE 6 0 E0 ⟨#[120]⟩ E0 [], mkE 1 0 E0 E0 E0 []] [] [] []]
theorem goodI10 : Good wI10 nI10 := ⟨by kernel_rfl, fun R => by kernel_rfl, red_all fun n X => by kernel_rfl⟩
def nI11 : Nd := mkS 4 0 E0 E0 [mkE 17 0 E0 ⟨#[60]⟩ E0 [mkE 6 0 E0 ⟨#[97]⟩ E0 [], mkE 1 0 E0 E0 E0 []]] [mkS 9 0 E0 E0 [mkE 14 0 E0 E0 ⟨#[90, 101, 114, 111, 70, 97, 117, 108, 116]⟩ []] [] [] []] [] []
theorem goodI11 : Good wI11 nI11 := ⟨by kernel_rfl, fun R => by kernel_rfl, red_of fun n R => by kernel_rfl⟩
def nI12 : Nd := mkS 7 0 E0 E0 [mkE 17 0 E0 ⟨#[47]⟩ E0 [mkE 1 7 E0 E0 E0 [], mkE 6 0 E0 ⟨#[97]⟩ E0 []]] [] [] []
theorem goodI12 : Good wI12 nI12 := ⟨by kernel_rfl, fun R => by kernel_rfl, red_all fun n X => by kernel_rfl⟩
def nI13 : Nd := mkS 4 0 E0 E0 [mkE 17 0 E0 ⟨#[60]⟩ E0 [mkE 1 0 E0 E0 E0 [], mkE 6 0 E0 ⟨#[97]⟩ E0 []]] [mkS 7 0 E0 E0 [mkE 11 0 E0 ⟨#[102]⟩ E0 [mkE 17 0 E0 ⟨#[45]⟩ E0 [mkE 6 0 E0 ⟨#[97]⟩ E0 [], mkE 1 1 E0 E0 E0 []]]] [] [] []] [] []
theorem goodI13 : Good wI13 nI13 := ⟨by kernel_rfl, fun R => by kernel_rfl, red_of fun n R => by kernel_rfl⟩
def nI14 : Nd := mkS 8 3 E0 E0 [mkE 17 0 E0 ⟨#[60]⟩ E0 [mkE 6 0 E0 ⟨#[120]⟩ E0 [], mkE 1 9 E0 E0 E0 []]] [] [] []
theorem goodI14 : Good wI14 nI14 := ⟨by kernel_rfl, fun R => by kernel_rfl, red_all fun n X => by kernel_rfl⟩
def nI15 : Nd := mkS 7 0 E0 E0 [mkE 16 0 E0 E0 ⟨#[65]⟩ [mkE 6 0 E0 ⟨#[111]⟩ E0 []]] [] [] []
theorem goodI15 : Good wI15 nI15 := ⟨by kernel_rfl, fun R => by kernel_rfl, red_all fun n X => by kernel_rfl⟩
def nI16 : Nd := mkS 4 0 E0 E0 [mkE 2 1 E0 E0 E0 []] [mkS 1 0 ⟨#[105, 110, 116]⟩ ⟨#[118]⟩ [mkE 11 0 E0 ⟨#[102]⟩ E0 [mkE 6 0 E0 ⟨#[110]⟩ E0 []]] [] [] [], mkS 7 0 E0 E0 [mkE 6 0 E0 ⟨#[118]⟩ E0 []] [] [] []] [] []
theorem goodI16 : Good wI16 nI16 := ⟨by kernel_rfl, fun R => by kernel_rfl, red_of fun n R => by kernel_rfl⟩
def nI17 : Nd := mkS 7 0 E0 E0 [mkE 17 0 E0 ⟨#[43]⟩ E0 [mkE 17 0 E0 ⟨#[43]⟩ E0 [mkE 6 0 E0 ⟨#[119]⟩ E0 [], mkE 6 0 E0 ⟨#[120]⟩ E0 []], mkE 2 1 E0 E0 E0 []]] [] [] []
theorem goodI17 : Good wI17 nI17 := ⟨by kernel_rfl, fun R => by kernel_rfl, red_all fun n X => by kernel_rfl⟩
def nI18 : Nd := mkS 7 0 E0 E0 [mkE 17 0 E0 ⟨#[64]⟩ E0 [mkE 3 0 ⟨#[104, 195, 169, 121]⟩ E0 E0 [], mkE 6 0 E0 ⟨#[97]⟩ E0 []]] [] [] []
theorem goodI18 : Good wI18 nI18 := ⟨by kernel_rfl, fun R => by kernel_rfl, red_all fun n X => by kernel_rfl⟩
def nI19 : Nd := mkS 7 0 E0 E0 [mkE 18 0 E0 ⟨#[35]⟩ E0 [mkE 6 0 E0 ⟨#[119]⟩ E0 []]] [] [] []
theorem goodI19 : Good wI19 nI19 := ⟨by kernel_rfl, fun R => by kernel_rfl, red_all fun n X => by kernel_rfl⟩
def nI20 : Nd := mkS 7 0 E0 E0 [mkE 11 0 E0 ⟨#[102]⟩ E0 [mkE 6 0 E0 ⟨#[97]⟩ E0 [], mkE 1 2 E0 E0 E0 []]] [] [] []
theorem goodI20 : Good wI20 nI20 := ⟨by kernel_rfl, fun R => by kernel_rfl, red_all fun n X => by kernel_rfl⟩
def nI21 : Nd := mkS 3 0 E0 E0 [mkE 10 0 E0 ⟨#[103, 50]⟩ E0 [mkE 5 0 E0 E0 E0 []]] [] [] []
theorem goodI21 : Good wI21 nI21 := ⟨by kernel_rfl, fun R => by kernel_rfl, red_all fun n X => by kernel_rfl⟩
def nI22 : Nd := mkS 7 0 E0 E0 [mkE 13 0 E0 ⟨#[107]⟩ ⟨#[65]⟩ [mkE 6 0 E0 ⟨#[97]⟩ E0 []]] [] [] []
theorem goodI22 : Good wI22 nI22 := ⟨by kernel_rfl, fun R => by kernel_rfl, red_all fun n X => by kernel_rfl⟩
def nI23 : Nd := mkS 10 0 ⟨#[69, 120, 99, 101, 112, 116, 105, 111, 110]⟩ ⟨#[101]⟩ [] [mkS 9 0 E0 E0 [mkE 14 0 E0 E0 ⟨#[82, 97, 110, 103, 101, 70, 97, 117, 108, 116]⟩ []] [] [] []] [mkS 2 0 E0 E0 [mkE 6 0 E0 ⟨#[110]⟩ E0 [], mkE 4 0 E0 E0 E0 []] [] [] []] []
theorem goodI23 : Good wI23 nI23 := ⟨by kernel_rfl, fun R => by kernel_rfl, red_of fun n R => by kernel_rfl⟩
def nI24 : Nd := mkS 1 0 ⟨#[65]⟩ ⟨#[113]⟩ [mkE 6 0 E0 ⟨#[110]⟩ E0 []] [] [] []
theorem goodI24 : Good wI24 nI24 := ⟨by kernel_rfl, fun R => by kernel_rfl, red_all fun n X => by kernel_rfl⟩
def nI25 : Nd := mkS 7 0 E0 E0 [mkE 17 0 E0 ⟨#[37]⟩ E0 [mkE 18 0 E0 ⟨#[45]⟩ E0 [mkE 6 0 E0 ⟨#[97]⟩ E0 []], mkE 1 3 E0 E0 E0 []]] [] [] []
theorem goodI25 : Good wI25 nI25 := ⟨by kernel_rfl, fun R => by kernel_rfl, red_all fun n X => by kernel_rfl⟩
def nI26 : Nd := mkS 7 0 E0 E0 [mkE 17 0 E0 ⟨#[38, 38]⟩ E0 [mkE 17 0 E0 ⟨#[61, 61]⟩ E0 [mkE 6 0 E0 ⟨#[110]⟩ E0 [], mkE 6 0 E0 ⟨#[111]⟩ E0 []], mkE 18 0 E0 ⟨#[33]⟩ E0 [mkE 17 0 E0 ⟨#[60, 61]⟩ E0 [mkE 6 0 E0 ⟨#[97]⟩ E0 [], mkE 1 2 E0 E0 E0 []]]]] [] [] []
theorem goodI26 : Good wI26 nI26 := ⟨by kernel_rfl, fun R => by kernel_rfl, red_all fun n X => by kernel_rfl⟩
def nI27 : Nd := mkS 7 0 E0 E0 [mkE 7 0 E0 ⟨#[120]⟩ E0 [mkE 15 0 E0 E0 ⟨#[65]⟩ [mkE 6 0 E0 ⟨#[111]⟩ E0 []]]] [] [] []
theorem goodI27 : Good wI27 nI27 := ⟨by kernel_rfl, fun R => by kernel_rfl, red_all fun n X => by kernel_rfl⟩
def nS0 : Nd := mkS 7 0 E0 E0 [mkE 8 0 E0 ⟨#[120]⟩ E0 []] [] [] []
theorem goodS0 : Good wS0 nS0 := ⟨by kernel_rfl, fun R => by kernel_rfl, red_all fun n X => by kernel_rfl⟩
def nS1 : Nd := mkS 2 0 E0 E0 [mkE 6 0 E0 ⟨#[120]⟩ E0 [], mkE 12 0 E0 ⟨#[102]⟩ E0 [mkE 6 0 E0 ⟨#[97]⟩ E0 []]] [] [] []
theorem goodS1 : Good wS1 nS1 := ⟨by kernel_rfl, fun R => by kernel_rfl, red_all fun n X => by kernel_rfl⟩
def nS2 : Nd := mkS 3 0 E0 E0 [mkE 12 0 E0 ⟨#[103, 50]⟩ E0 []] [] [] []
theorem goodS2 : Good wS2 nS2 := ⟨by kernel_rfl, fun R => by kernel_rfl, red_all fun n X => by kernel_rfl⟩
def nS3 : Nd := mkS 2 0 E0 E0 [mkE 6 0 E0 ⟨#[121]⟩ E0 [], mkE 17 0 E0 ⟨#[43]⟩ E0 [mkE 6 0 E0 ⟨#[121]⟩ E0 [], mkE 1 1 E0 E0 E0 []]] [] [] []
theorem goodS3 : Good wS3 nS3 := ⟨by kernel_rfl, fun R => by kernel_rfl, red_all fun n X => by kernel_rfl⟩
def nS4 : Nd := mkS 2 0 E0 E0 [mkE 6 0 E0 ⟨#[109]⟩ E0 [], mkE 14 0 E0 E0 ⟨#[66]⟩ [mkE 6 0 E0 ⟨#[97]⟩ E0 []]] [] [] []
theorem goodS4 : Good wS4 nS4 := ⟨by kernel_rfl, fun R => by kernel_rfl, red_all fun n X => by kernel_rfl⟩
def nS5 : Nd := mkS 2 0 E0 E0 [mkE 6 0 E0 ⟨#[110]⟩ E0 [], mkE 6 0 E0 ⟨#[109]⟩ E0 []] [] [] []
theorem goodS5 : Good wS5 nS5 := ⟨by kernel_rfl, fun R => by kernel_rfl, red_all fun n X => by kernel_rfl⟩
def nS6 : Nd := mkS 7 0 E0 E0 [mkE 7 0 E0 ⟨#[121]⟩ E0 [mkE 15 0 E0 E0 ⟨#[66]⟩ [mkE 6 0 E0 ⟨#[110]⟩ E0 []]]] [] [] []
theorem goodS6 : Good wS6 nS6 := ⟨by kernel_rfl, fun R => by kernel_rfl, red_all fun n X => by kernel_rfl⟩
def nO0 : Nd := mkS 7 0 E0 E0 [mkE 10 0 E0 ⟨#[102]⟩ E0 [mkE 6 0 E0 ⟨#[111]⟩ E0 [], mkE 1 2 E0 E0 E0 []]] [] [] []
theorem goodO0 : Good wO0 nO0 := ⟨by kernel_rfl, fun R => by kernel_rfl, red_all fun n X => by kernel_rfl⟩
def nO1 : Nd := mkS 7 0 E0 E0 [mkE 10 0 E0 ⟨#[102]⟩ E0 [mkE 6 0 E0 ⟨#[111]⟩ E0 [], mkE 6 0 E0 ⟨#[111]⟩ E0 []]] [] [] []
theorem goodO1 : Good wO1 nO1 := ⟨by kernel_rfl, fun R => by kernel_rfl, red_all fun n X => by kernel_rfl⟩
def nO2 : Nd := mkS 7 0 E0 E0 [mkE 10 0 E0 ⟨#[102]⟩ E0 [mkE 6 0 E0 ⟨#[111]⟩ E0 [], mkE 1 1 E0 E0 E0 [], mkE 1 2 E0 E0 E0 []]] [] [] []
theorem goodO2 : Good wO2 nO2 := ⟨by kernel_rfl, fun R => by kernel_rfl, red_all fun n X => by kernel_rfl⟩
def nO3 : Nd := mkS 3 0 E0 E0 [mkE 10 0 E0 ⟨#[103, 50]⟩ E0 [mkE 6 0 E0 ⟨#[111]⟩ E0 []]] [] [] []
theorem goodO3 : Good wO3 nO3 := ⟨by kernel_rfl, fun R => by kernel_rfl, red_all fun n X => by kernel_rfl⟩
def nO4 : Nd := mkS 2 0 E0 E0 [mkE 7 0 E0 ⟨#[110]⟩ E0 [mkE 6 0 E0 ⟨#[111]⟩ E0 []], mkE 6 0 E0 ⟨#[111]⟩ E0 []] [] [] []
theorem goodO4 : Good wO4 nO4 := ⟨by kernel_rfl, fun R => by kernel_rfl, red_all fun n X => by kernel_rfl⟩
def nO5 : Nd := mkS 7 0 E0 E0 [mkE 7 0 E0 ⟨#[120]⟩ E0 [mkE 7 0 E0 ⟨#[110]⟩ E0 [mkE 6 0 E0 ⟨#[111]⟩ E0 []]]] [] [] []
theorem goodO5 : Good wO5 nO5 := ⟨by kernel_rfl, fun R => by kernel_rfl, red_all fun n X => by kernel_rfl⟩
def nO6 : Nd := mkS 7 0 E0 E0 [mkE 9 0 E0 ⟨#[115]⟩ ⟨#[65]⟩ []] [] [] []
theorem goodO6 : Good wO6 nO6 := ⟨by kernel_rfl, fun R => by kernel_rfl, red_all fun n X => by kernel_rfl⟩
def nO7 : Nd := mkS 8 2 E0 E0 [mkE 17 0 E0 ⟨#[60]⟩ E0 [mkE 13 0 E0 ⟨#[107]⟩ ⟨#[65]⟩ [mkE 1 3 E0 E0 E0 []], mkE 1 7 E0 E0 E0 []]] [] [] []
theorem goodO7 : Good wO7 nO7 := ⟨by kernel_rfl, fun R => by kernel_rfl, red_all fun n X => by kernel_rfl⟩
def nO8 : Nd := mkS 10 0 ⟨#[78, 117, 108, 108, 70, 97, 117, 108, 116]⟩ ⟨#[101]⟩ [] [mkS 3 0 E0 E0 [mkE 10 0 E0 ⟨#[103, 50]⟩ E0 [mkE 7 0 E0 ⟨#[110]⟩ E0 [mkE 6 0 E0 ⟨#[111]⟩ E0 []]]] [] [] []] [mkS 7 0 E0 E0 [mkE 3 0 ⟨#[110]⟩ E0 E0 []] [] [] []] []
theorem goodO8 : Good wO8 nO8 := ⟨by kernel_rfl, fun R => by kernel_rfl, red_of fun n R => by kernel_rfl⟩
def nO9 : Nd := mkS 5 0 E0 E0 [mkE 17 0 E0 ⟨#[60]⟩ E0 [mkE 9 0 E0 ⟨#[115]⟩ ⟨#[65]⟩ [], mkE 1 5 E0 E0 E0 []]] [mkS 2 0 E0 E0 [mkE 9 0 E0 ⟨#[115]⟩ ⟨#[65]⟩ [], mkE 17 0 E0 ⟨#[43]⟩ E0 [mkE 9 0 E0 ⟨#[115]⟩ ⟨#[65]⟩ [], mkE 1 1 E0 E0 E0 []]] [] [] []] [] []
theorem goodO9 : Good wO9 nO9 := ⟨by kernel_rfl, fun R => by kernel_rfl, red_all fun n X => by kernel_rfl⟩
def nO10 : Nd := mkS 7 0 E0 E0 [mkE 17 0 E0 ⟨#[43]⟩ E0 [mkE 7 0 E0 ⟨#[119]⟩ E0 [mkE 6 0 E0 ⟨#[111]⟩ E0 []], mkE 18 0 E0 ⟨#[35]⟩ E0 [mkE 7 0 E0 ⟨#[119]⟩ E0 [mkE 6 0 E0 ⟨#[111]⟩ E0 []]]]] [] [] []
theorem goodO10 : Good wO10 nO10 := ⟨by kernel_rfl, fun R => by kernel_rfl, red_all fun n X => by kernel_rfl⟩
def nO11 : Nd := mkS 7 0 E0 E0 [mkE 16 0 E0 E0 ⟨#[65]⟩ [mkE 6 0 E0 ⟨#[111]⟩ E0 []]] [] [] []
theorem goodO11 : Good wO11 nO11 := ⟨by kernel_rfl, fun R => by kernel_rfl, red_all fun n X => by kernel_rfl⟩
def iFo : List Pr := [.cl ⟨#[65]⟩, .nm ⟨#[111]⟩, .fx ⟨#[61]⟩, .nm ⟨#[110]⟩, .fx ⟨#[59]⟩]
def nFo : Nd := mkS 1 0 ⟨#[65]⟩ ⟨#[111]⟩ [mkE 6 0 E0 ⟨#[110]⟩ E0 []] [] [] []
theorem goodFo : Good iFo nFo := ⟨by kernel_rfl, fun R => by kernel_rfl, red_all fun n X => by kernel_rfl⟩
def iFt : List Pr := [.cl ⟨#[65]⟩, .nm ⟨#[111]⟩, .fx ⟨#[61]⟩, .fx ⟨#[116, 104, 105, 115]⟩, .fx ⟨#[59]⟩]
def nFt : Nd := mkS 1 0 ⟨#[65]⟩ ⟨#[111]⟩ [mkE 5 0 E0 E0 E0 []] [] [] []
theorem goodFt : Good iFt nFt := ⟨by kernel_rfl, fun R => by kernel_rfl, red_all fun n X => by kernel_rfl⟩
def iFc : List Pr := [.cl ⟨#[67]⟩, .nm ⟨#[99]⟩, .fx ⟨#[61]⟩, .fx ⟨#[110, 101, 119]⟩, .cl ⟨#[67]⟩, .fx ⟨#[40]⟩, .fx ⟨#[41]⟩, .fx ⟨#[59]⟩]
def nFc : Nd := mkS 1 0 ⟨#[67]⟩ ⟨#[99]⟩ [mkE 14 0 E0 E0 ⟨#[67]⟩ []] [] [] []
theorem goodFc : Good iFc nFc := ⟨by kernel_rfl, fun R => by kernel_rfl, red_all fun n X => by kernel_rfl⟩
def iFa : List Pr := [.fx ⟨#[105, 110, 116]⟩, .nm ⟨#[97]⟩, .fx ⟨#[61]⟩, .nu ⟨#[50]⟩, .fx ⟨#[59]⟩]
def nFa : Nd := mkS 1 0 ⟨#[105, 110, 116]⟩ ⟨#[97]⟩ [mkE 1 2 E0 E0 E0 []] [] [] []
theorem goodFa : Good iFa nFa := ⟨by kernel_rfl, fun R => by kernel_rfl, red_all fun n X => by kernel_rfl⟩
def iFg : List Pr := [.fx ⟨#[115, 117, 112, 101, 114]⟩, .fx ⟨#[46]⟩, .nm ⟨#[103, 50]⟩, .fx ⟨#[40]⟩, .fx ⟨#[41]⟩, .fx ⟨#[59]⟩]
def nFg : Nd := mkS 3 0 E0 E0 [mkE 12 0 E0 ⟨#[103, 50]⟩ E0 []] [] [] []
theorem goodFg : Good iFg nFg := ⟨by kernel_rfl, fun R => by kernel_rfl, red_all fun n X => by kernel_rfl⟩
def iFrx : List Pr := [.fx ⟨#[114, 101, 116, 117, 114, 110]⟩, .nm ⟨#[120]⟩, .fx ⟨#[59]⟩]
def nFrx : Nd := mkS 6 0 E0 E0 [mkE 6 0 E0 ⟨#[120]⟩ E0 []] [] [] []
theorem goodFrx : Good iFrx nFrx := ⟨by kernel_rfl, fun R => by kernel_rfl, red_all fun n X => by kernel_rfl⟩
def iFry : List Pr := [.fx ⟨#[114, 101, 116, 117, 114, 110]⟩, .nm ⟨#[121]⟩, .fx ⟨#[43]⟩, .nm ⟨#[97]⟩, .fx ⟨#[59]⟩]
def nFry : Nd := mkS 6 0 E0 E0 [mkE 17 0 E0 ⟨#[43]⟩ E0 [mkE 6 0 E0 ⟨#[121]⟩ E0 [], mkE 6 0 E0 ⟨#[97]⟩ E0 []]] [] [] []
theorem goodFry : Good iFry nFry := ⟨by kernel_rfl, fun R => by kernel_rfl, red_all fun n X => by kernel_rfl⟩
def iFmA : List Pr := [.cl ⟨#[65]⟩, .nm ⟨#[111]⟩, .fx ⟨#[61]⟩, .fx ⟨#[110, 101, 119]⟩, .cl ⟨#[65]⟩, .fx ⟨#[40]⟩, .fx ⟨#[41]⟩, .fx ⟨#[59]⟩]
def nFmA : Nd := mkS 1 0 ⟨#[65]⟩ ⟨#[111]⟩ [mkE 14 0 E0 E0 ⟨#[65]⟩ []] [] [] []
theorem goodFmA : Good iFmA nFmA := ⟨by kernel_rfl, fun R => by kernel_rfl, red_all fun n X => by kernel_rfl⟩
def iFm2 : List Pr := [.cl ⟨#[65]⟩, .nm ⟨#[111]⟩, .fx ⟨#[61]⟩, .fx ⟨#[110, 101, 119]⟩, .cl ⟨#[66]⟩, .fx ⟨#[40]⟩, .nu ⟨#[50]⟩, .fx ⟨#[41]⟩, .fx ⟨#[59]⟩]
def nFm2 : Nd := mkS 1 0 ⟨#[65]⟩ ⟨#[111]⟩ [mkE 14 0 E0 E0 ⟨#[66]⟩ [mkE 1 2 E0 E0 E0 []]] [] [] []
theorem goodFm2 : Good iFm2 nFm2 := ⟨by kernel_rfl, fun R => by kernel_rfl, red_all fun n X => by kernel_rfl⟩
def iFm0 : List Pr := [.cl ⟨#[65]⟩, .nm ⟨#[111]⟩, .fx ⟨#[61]⟩, .fx ⟨#[110, 101, 119]⟩, .cl ⟨#[66]⟩, .fx ⟨#[40]⟩, .fx ⟨#[41]⟩, .fx ⟨#[59]⟩]
def nFm0 : Nd := mkS 1 0 ⟨#[65]⟩ ⟨#[111]⟩ [mkE 14 0 E0 E0 ⟨#[66]⟩ []] [] [] []
theorem goodFm0 : Good iFm0 nFm0 := ⟨by kernel_rfl, fun R => by kernel_rfl, red_all fun n X => by kernel_rfl⟩
def iFmC : List Pr := [.cl ⟨#[65]⟩, .nm ⟨#[111]⟩, .fx ⟨#[61]⟩, .fx ⟨#[110, 101, 119]⟩, .cl ⟨#[67]⟩, .fx ⟨#[40]⟩, .fx ⟨#[41]⟩, .fx ⟨#[59]⟩]
def nFmC : Nd := mkS 1 0 ⟨#[65]⟩ ⟨#[111]⟩ [mkE 14 0 E0 E0 ⟨#[67]⟩ []] [] [] []
theorem goodFmC : Good iFmC nFmC := ⟨by kernel_rfl, fun R => by kernel_rfl, red_all fun n X => by kernel_rfl⟩
end
set_option maxRecDepth 100000
section
open Go.RowKit
/-! ### Rows of statements -/
abbrev It := List Pr × Nd
def wcat (L : List It) : List Pr := L.flatMap (·.1)
def ncat (L : List It) : List Nd := L.map (·.2)
def pKet : Pr := .fx ⟨#[125]⟩
def pBra : Pr := .fx ⟨#[123]⟩
theorem wcat_cons (i : It) (L : List It) (R : List Pr) : wcat (i :: L) ++ R = i.1 ++ (wcat L ++ R) := by simp [wcat]
def Gd1 (i : It) : Prop := Good i.1 i.2 ∧ ∃ y t, i.1 = y :: t ∧ y ∈ fol
theorem ket_fol : pKet ∈ fol := by unfold pKet fol; simp
theorem nxt : ∀ (L : List It) (R : List Pr), (∀ i ∈ L, Gd1 i) → ∃ y X, wcat L ++ pKet :: R = y :: X ∧ y ∈ fol
 | [], R, _ => ⟨_, R, rfl, ket_fol⟩
 | i :: L, R, h => by
   obtain ⟨y, t, e, hy⟩ := (h i (by simp)).2
   exact ⟨y, t ++ (wcat L ++ pKet :: R), by rw [wcat_cons, e]; rfl, hy⟩
theorem until_ket (op : Int) (R : List Pr) : (S1 op (pKet :: R)).until sKet = false := by kernel_rfl
theorem loop_items : ∀ (L : List It) (N : Nat) (l : List Nd) (R : List Pr), (∀ i ∈ L, Gd1 i) → L.length + 7 ≤ N → runS N (.loop false l) (S1 1 (wcat L ++ pKet :: R)) = (l ++ ncat L, S1 1 (pKet :: R))
 | [], N, l, R, _, hN => by
   obtain ⟨k, rfl⟩ : ∃ k, N = k + 1 := ⟨N - 1, by omega⟩
   show runS (k + 1) (.loop false l) (S1 1 (pKet :: R)) = _
   rw [runS, until_ket]
   simp [ncat]
 | i :: L, N, l, R, h, hN => by
   obtain ⟨k, rfl⟩ : ∃ k, N = k + 6 + 1 := ⟨N - 7, by simp at hN; omega⟩
   obtain ⟨hg, _⟩ := h i (by simp)
   have hL : ∀ j ∈ L, Gd1 j := fun j hj => h j (by simp [hj])
   obtain ⟨y, X, e, hy⟩ := nxt L R hL
   have ih := loop_items L (k + 6) (l ++ [i.2]) R hL (by simp at hN; omega)
   rw [e] at ih
   rw [wcat_cons, e, runS, hg.unt, if_pos rfl]
   simp only [hg.red k y X hy, Bool.false_and, hg.fit, if_true]
   rw [ih]
   simp [ncat]
theorem enter_bra (R : List Pr) : (S1 0 (pBra :: R)).enter sBra = S1 1 R := by kernel_rfl
theorem leave_ket (R : List Pr) : (S1 1 (pKet :: R)).leave sKet = S1 0 R := by kernel_rfl
theorem S1_len (op : Int) (P : List Pr) : (S1 op P).len = P.length := by simp [S1, RS.len, Z]
theorem wcat_len : ∀ (L : List It), (∀ i ∈ L, Gd1 i) → L.length ≤ (wcat L).length
 | [], _ => Nat.zero_le _
 | i :: L, h => by
   obtain ⟨y, t, e, _⟩ := (h i (by simp)).2
   have ih := wcat_len L fun j hj => h j (by simp [hj])
   simp only [wcat, List.flatMap_cons, List.length_append, List.length_cons, e] at ih ⊢
   omega
theorem body_items (L : List It) (R : List Pr) (h : ∀ i ∈ L, Gd1 i) : bd false (S1 0 (pBra :: (wcat L ++ pKet :: R))) = (ncat L, S1 0 R) := by
 unfold bd
 have hl := wcat_len L h
 rw [S1_len, runS, enter_bra, loop_items L _ [] R h (by simp; omega), leave_ket]
 rfl
/-! ### Members -/
structure Mb (own : ByteArray) (i : It) : Prop where
 unt : ∀ X, (S1 0 (i.1 ++ X)).until sKet = true
 red : ∀ X, memM own (S1 0 (i.1 ++ X)) = (i.2, S1 0 X)
theorem loopC_items (own : ByteArray) : ∀ (L : List It) (N : Nat) (f g : List Nd) (R : List Pr), (∀ i ∈ L, Mb own i) → L.length + 1 ≤ N →
   loopC N own f g (S1 0 (wcat L ++ pKet :: R)) = ((f ++ (ncat L).filter isF, g ++ (ncat L).filter fun x => !isF x), S1 0 (pKet :: R))
 | [], N, f, g, R, _, hN => by
   obtain ⟨k, rfl⟩ : ∃ k, N = k + 1 := ⟨N - 1, by omega⟩
   show loopC (k + 1) own f g (S1 0 (pKet :: R)) = _
   rw [loopC, until_ket]
   simp [ncat]
 | i :: L, N, f, g, R, h, hN => by
   obtain ⟨k, rfl⟩ : ∃ k, N = k + 1 := ⟨N - 1, by omega⟩
   have hg := h i (by simp)
   have hL : ∀ j ∈ L, Mb own j := fun j hj => h j (by simp [hj])
   rw [wcat_cons, loopC, hg.unt, if_pos rfl, hg.red]
   cases hf : isF i.2 with
   | true =>
     simp only [if_true]
     rw [loopC_items own L k _ _ R hL (by simp at hN; omega)]
     simp [ncat, hf]
   | false =>
     simp only [Bool.false_eq_true, if_false]
     rw [loopC_items own L k _ _ R hL (by simp at hN; omega)]
     simp [ncat, hf]
/-! ### Classes -/
structure Hdr (own sup : ByteArray) (hd : List Pr) : Prop where
 need : ∀ X, ((S1 0 (hd ++ X)).need kClass).classV = own
 sp : ∀ X, clSup (S1 0 (hd ++ X)) = sup
 l3 : ∀ X, kl3 (S1 0 (hd ++ X)) = S1 0 X
 ne : ∀ X, (S1 0 (hd ++ X)).ws.isEmpty = false
def clN (own sup : ByteArray) (L : List It) : Nd := .cl own sup (.slice none 0 0) (.slice none 0 0) ((ncat L).filter isF) ((ncat L).filter fun x => !isF x)
theorem need_ket (R : List Pr) : (S1 0 (pKet :: R)).need sKet = S1 0 R := by kernel_rfl
theorem mb_len (own : ByteArray) : ∀ (L : List It), (∀ i ∈ L, Mb own i) → (∀ i ∈ L, i.1 ≠ []) → L.length ≤ (wcat L).length
 | [], _, _ => Nat.zero_le _
 | i :: L, h, hn => by
   have ih := mb_len own L (fun j hj => h j (by simp [hj])) fun j hj => hn j (by simp [hj])
   have := hn i (by simp)
   have h0 : 0 < i.1.length := List.length_pos_iff.2 this
   simp only [wcat, List.flatMap_cons, List.length_append, List.length_cons] at ih ⊢
   omega
theorem cls_items {own sup : ByteArray} {hd : List Pr} (hh : Hdr own sup hd) (L : List It) (R : List Pr) (h : ∀ i ∈ L, Mb own i) (hn : ∀ i ∈ L, i.1 ≠ []) : clsC (S1 0 (hd ++ (wcat L ++ pKet :: R))) = (clN own sup L, S1 0 R) := by
 have hl := mb_len own L h hn
 have e : clB (S1 0 (hd ++ (wcat L ++ pKet :: R))) = (((ncat L).filter isF, (ncat L).filter fun x => !isF x), S1 0 (pKet :: R)) := by
   unfold clB
   rw [hh.need, hh.l3, S1_len, loopC_items own L _ [] [] R h (by simp; omega)]
   simp
 unfold clsC
 rw [e, hh.need, hh.sp, need_ket]
 rfl
def hfA : List Pr := [.fx ⟨#[105, 110, 116]⟩, .nm ⟨#[102]⟩, .fx ⟨#[40]⟩, .fx ⟨#[105, 110, 116]⟩, .nm ⟨#[97]⟩, .fx ⟨#[41]⟩]
def hfB : List Pr := [.fx ⟨#[105, 110, 116]⟩, .nm ⟨#[102]⟩, .fx ⟨#[40]⟩, .fx ⟨#[105, 110, 116]⟩, .nm ⟨#[97]⟩, .fx ⟨#[41]⟩]
def hgC : List Pr := [.fx ⟨#[118, 111, 105, 100]⟩, .nm ⟨#[103, 50]⟩, .fx ⟨#[40]⟩, .fx ⟨#[41]⟩]
def htT : List Pr := [.fx ⟨#[115, 116, 97, 116, 105, 99]⟩, .fx ⟨#[118, 111, 105, 100]⟩, .nm ⟨#[116, 50]⟩, .fx ⟨#[40]⟩, .fx ⟨#[41]⟩]
def ma0 : It := ([.fx ⟨#[105, 110, 116]⟩, .nm ⟨#[120]⟩, .fx ⟨#[61]⟩, .nu ⟨#[49]⟩, .fx ⟨#[59]⟩], mkF false ⟨#[105, 110, 116]⟩ ⟨#[120]⟩ [mkE 1 1 E0 E0 E0 []])
theorem mba0 : Mb ⟨#[65]⟩ ma0 := ⟨fun X => by kernel_rfl, fun X => by kernel_rfl⟩
def ma1 : It := ([.fx ⟨#[115, 116, 97, 116, 105, 99]⟩, .fx ⟨#[105, 110, 116]⟩, .nm ⟨#[115]⟩, .fx ⟨#[61]⟩, .nu ⟨#[50]⟩, .fx ⟨#[59]⟩], mkF true ⟨#[105, 110, 116]⟩ ⟨#[115]⟩ [mkE 1 2 E0 E0 E0 []])
theorem mba1 : Mb ⟨#[65]⟩ ma1 := ⟨fun X => by kernel_rfl, fun X => by kernel_rfl⟩
def ma2 : It := ([.cl ⟨#[65]⟩, .nm ⟨#[110]⟩, .fx ⟨#[59]⟩], mkF false ⟨#[65]⟩ ⟨#[110]⟩ [])
theorem mba2 : Mb ⟨#[65]⟩ ma2 := ⟨fun X => by kernel_rfl, fun X => by kernel_rfl⟩
def ma3 : It := ([.fx ⟨#[83, 116, 114, 105, 110, 103]⟩, .nm ⟨#[119]⟩, .fx ⟨#[61]⟩, .qu ⟨#[119]⟩, .fx ⟨#[59]⟩], mkF false ⟨#[83, 116, 114, 105, 110, 103]⟩ ⟨#[119]⟩ [mkE 3 0 ⟨#[119]⟩ E0 E0 []])
theorem mba3 : Mb ⟨#[65]⟩ ma3 := ⟨fun X => by kernel_rfl, fun X => by kernel_rfl⟩
def ma4 : It := ([.cl ⟨#[65]⟩, .fx ⟨#[40]⟩, .fx ⟨#[41]⟩, .fx ⟨#[123]⟩, .nm ⟨#[120]⟩, .fx ⟨#[61]⟩, .nu ⟨#[53]⟩, .fx ⟨#[59]⟩, .fx ⟨#[125]⟩], mkM false true E0 E0 [] [mkS 2 0 E0 E0 [mkE 6 0 E0 ⟨#[120]⟩ E0 [], mkE 1 5 E0 E0 E0 []] [] [] []])
theorem mba4 : Mb ⟨#[65]⟩ ma4 := ⟨fun X => by kernel_rfl, fun X => by kernel_rfl⟩
def ma5 : It := ([.fx ⟨#[105, 110, 116]⟩, .nm ⟨#[102]⟩, .fx ⟨#[40]⟩, .cl ⟨#[65]⟩, .nm ⟨#[111]⟩, .fx ⟨#[41]⟩, .fx ⟨#[123]⟩, .fx ⟨#[114, 101, 116, 117, 114, 110]⟩, .nu ⟨#[49]⟩, .fx ⟨#[59]⟩, .fx ⟨#[125]⟩], mkM false false ⟨#[105, 110, 116]⟩ ⟨#[102]⟩ [(⟨#[65]⟩, ⟨#[111]⟩)] [mkS 6 0 E0 E0 [mkE 1 1 E0 E0 E0 []] [] [] []])
theorem mba5 : Mb ⟨#[65]⟩ ma5 := ⟨fun X => by kernel_rfl, fun X => by kernel_rfl⟩
def ma6 : It := ([.fx ⟨#[105, 110, 116]⟩, .nm ⟨#[102]⟩, .fx ⟨#[40]⟩, .fx ⟨#[105, 110, 116]⟩, .nm ⟨#[97]⟩, .fx ⟨#[44]⟩, .fx ⟨#[105, 110, 116]⟩, .nm ⟨#[98]⟩, .fx ⟨#[41]⟩, .fx ⟨#[123]⟩, .fx ⟨#[114, 101, 116, 117, 114, 110]⟩, .nm ⟨#[97]⟩, .fx ⟨#[45]⟩, .nm ⟨#[98]⟩, .fx ⟨#[59]⟩, .fx ⟨#[125]⟩], mkM false false ⟨#[105, 110, 116]⟩ ⟨#[102]⟩ [(⟨#[105, 110, 116]⟩, ⟨#[97]⟩), (⟨#[105, 110, 116]⟩, ⟨#[98]⟩)] [mkS 6 0 E0 E0 [mkE 17 0 E0 ⟨#[45]⟩ E0 [mkE 6 0 E0 ⟨#[97]⟩ E0 [], mkE 6 0 E0 ⟨#[98]⟩ E0 []]] [] [] []])
theorem mba6 : Mb ⟨#[65]⟩ ma6 := ⟨fun X => by kernel_rfl, fun X => by kernel_rfl⟩
def ma7 : It := ([.fx ⟨#[118, 111, 105, 100]⟩, .nm ⟨#[103, 50]⟩, .fx ⟨#[40]⟩, .fx ⟨#[41]⟩, .fx ⟨#[123]⟩, .fx ⟨#[112, 114, 105, 110, 116]⟩, .qu ⟨#[65]⟩, .fx ⟨#[59]⟩, .fx ⟨#[125]⟩], mkM false false ⟨#[118, 111, 105, 100]⟩ ⟨#[103, 50]⟩ [] [mkS 7 0 E0 E0 [mkE 3 0 ⟨#[65]⟩ E0 E0 []] [] [] []])
theorem mba7 : Mb ⟨#[65]⟩ ma7 := ⟨fun X => by kernel_rfl, fun X => by kernel_rfl⟩
def ma8 : It := ([.fx ⟨#[115, 116, 97, 116, 105, 99]⟩, .fx ⟨#[105, 110, 116]⟩, .nm ⟨#[107]⟩, .fx ⟨#[40]⟩, .fx ⟨#[105, 110, 116]⟩, .nm ⟨#[97]⟩, .fx ⟨#[41]⟩, .fx ⟨#[123]⟩, .fx ⟨#[114, 101, 116, 117, 114, 110]⟩, .nm ⟨#[97]⟩, .fx ⟨#[42]⟩, .cl ⟨#[65]⟩, .fx ⟨#[58, 58]⟩, .nm ⟨#[115]⟩, .fx ⟨#[59]⟩, .fx ⟨#[125]⟩], mkM true false ⟨#[105, 110, 116]⟩ ⟨#[107]⟩ [(⟨#[105, 110, 116]⟩, ⟨#[97]⟩)] [mkS 6 0 E0 E0 [mkE 17 0 E0 ⟨#[42]⟩ E0 [mkE 6 0 E0 ⟨#[97]⟩ E0 [], mkE 9 0 E0 ⟨#[115]⟩ ⟨#[65]⟩ []]] [] [] []])
theorem mba8 : Mb ⟨#[65]⟩ ma8 := ⟨fun X => by kernel_rfl, fun X => by kernel_rfl⟩
def mb0 : It := ([.fx ⟨#[105, 110, 116]⟩, .nm ⟨#[120]⟩, .fx ⟨#[61]⟩, .nu ⟨#[55]⟩, .fx ⟨#[59]⟩], mkF false ⟨#[105, 110, 116]⟩ ⟨#[120]⟩ [mkE 1 7 E0 E0 E0 []])
theorem mbb0 : Mb ⟨#[66]⟩ mb0 := ⟨fun X => by kernel_rfl, fun X => by kernel_rfl⟩
def mb1 : It := ([.fx ⟨#[105, 110, 116]⟩, .nm ⟨#[121]⟩, .fx ⟨#[59]⟩], mkF false ⟨#[105, 110, 116]⟩ ⟨#[121]⟩ [])
theorem mbb1 : Mb ⟨#[66]⟩ mb1 := ⟨fun X => by kernel_rfl, fun X => by kernel_rfl⟩
def mb2 : It := ([.cl ⟨#[66]⟩, .nm ⟨#[109]⟩, .fx ⟨#[59]⟩], mkF false ⟨#[66]⟩ ⟨#[109]⟩ [])
theorem mbb2 : Mb ⟨#[66]⟩ mb2 := ⟨fun X => by kernel_rfl, fun X => by kernel_rfl⟩
def mb3 : It := ([.cl ⟨#[66]⟩, .fx ⟨#[40]⟩, .fx ⟨#[105, 110, 116]⟩, .nm ⟨#[97]⟩, .fx ⟨#[41]⟩, .fx ⟨#[123]⟩, .fx ⟨#[115, 117, 112, 101, 114]⟩, .fx ⟨#[40]⟩, .fx ⟨#[41]⟩, .fx ⟨#[59]⟩, .nm ⟨#[121]⟩, .fx ⟨#[61]⟩, .nm ⟨#[97]⟩, .fx ⟨#[59]⟩, .fx ⟨#[125]⟩], mkM false true E0 E0 [(⟨#[105, 110, 116]⟩, ⟨#[97]⟩)] [mkS 11 0 E0 E0 [] [] [] [], mkS 2 0 E0 E0 [mkE 6 0 E0 ⟨#[121]⟩ E0 [], mkE 6 0 E0 ⟨#[97]⟩ E0 []] [] [] []])
theorem mbb3 : Mb ⟨#[66]⟩ mb3 := ⟨fun X => by kernel_rfl, fun X => by kernel_rfl⟩
def mb4 : It := ([.cl ⟨#[66]⟩, .fx ⟨#[40]⟩, .fx ⟨#[41]⟩, .fx ⟨#[123]⟩, .fx ⟨#[125]⟩], mkM false true E0 E0 [] [])
theorem mbb4 : Mb ⟨#[66]⟩ mb4 := ⟨fun X => by kernel_rfl, fun X => by kernel_rfl⟩
def mb5 : It := ([.fx ⟨#[118, 111, 105, 100]⟩, .nm ⟨#[103, 50]⟩, .fx ⟨#[40]⟩, .fx ⟨#[41]⟩, .fx ⟨#[123]⟩, .fx ⟨#[112, 114, 105, 110, 116]⟩, .qu ⟨#[66]⟩, .fx ⟨#[59]⟩, .fx ⟨#[115, 117, 112, 101, 114]⟩, .fx ⟨#[46]⟩, .nm ⟨#[103, 50]⟩, .fx ⟨#[40]⟩, .fx ⟨#[41]⟩, .fx ⟨#[59]⟩, .fx ⟨#[112, 114, 105, 110, 116]⟩, .nm ⟨#[121]⟩, .fx ⟨#[59]⟩, .fx ⟨#[125]⟩], mkM false false ⟨#[118, 111, 105, 100]⟩ ⟨#[103, 50]⟩ [] [mkS 7 0 E0 E0 [mkE 3 0 ⟨#[66]⟩ E0 E0 []] [] [] [], mkS 3 0 E0 E0 [mkE 12 0 E0 ⟨#[103, 50]⟩ E0 []] [] [] [], mkS 7 0 E0 E0 [mkE 6 0 E0 ⟨#[121]⟩ E0 []] [] [] []])
theorem mbb5 : Mb ⟨#[66]⟩ mb5 := ⟨fun X => by kernel_rfl, fun X => by kernel_rfl⟩
def mc0 : It := ([.fx ⟨#[105, 110, 116]⟩, .nm ⟨#[120]⟩, .fx ⟨#[61]⟩, .nu ⟨#[57]⟩, .fx ⟨#[59]⟩], mkF false ⟨#[105, 110, 116]⟩ ⟨#[120]⟩ [mkE 1 9 E0 E0 E0 []])
theorem mbc0 : Mb ⟨#[67]⟩ mc0 := ⟨fun X => by kernel_rfl, fun X => by kernel_rfl⟩
def mc1 : It := ([.cl ⟨#[67]⟩, .fx ⟨#[40]⟩, .fx ⟨#[41]⟩, .fx ⟨#[123]⟩, .fx ⟨#[115, 117, 112, 101, 114]⟩, .fx ⟨#[40]⟩, .nu ⟨#[51]⟩, .fx ⟨#[41]⟩, .fx ⟨#[59]⟩, .fx ⟨#[125]⟩], mkM false true E0 E0 [] [mkS 11 0 E0 E0 [mkE 1 3 E0 E0 E0 []] [] [] []])
theorem mbc1 : Mb ⟨#[67]⟩ mc1 := ⟨fun X => by kernel_rfl, fun X => by kernel_rfl⟩
def mt1 : It := ([.fx ⟨#[115, 116, 97, 116, 105, 99]⟩, .fx ⟨#[118, 111, 105, 100]⟩, .nm ⟨#[116, 49]⟩, .fx ⟨#[40]⟩, .fx ⟨#[41]⟩, .fx ⟨#[123]⟩, .cl ⟨#[65]⟩, .nm ⟨#[111]⟩, .fx ⟨#[61]⟩, .cl ⟨#[84]⟩, .fx ⟨#[58, 58]⟩, .nm ⟨#[122]⟩, .fx ⟨#[59]⟩, .fx ⟨#[112, 114, 105, 110, 116]⟩, .nm ⟨#[111]⟩, .fx ⟨#[46]⟩, .nm ⟨#[102]⟩, .fx ⟨#[40]⟩, .nu ⟨#[51]⟩, .fx ⟨#[41]⟩, .fx ⟨#[59]⟩, .nm ⟨#[111]⟩, .fx ⟨#[46]⟩, .nm ⟨#[103, 50]⟩, .fx ⟨#[40]⟩, .fx ⟨#[41]⟩, .fx ⟨#[59]⟩, .fx ⟨#[97, 115, 115, 101, 114, 116]⟩, .nu ⟨#[49]⟩, .nm ⟨#[111]⟩, .fx ⟨#[46]⟩, .nm ⟨#[120]⟩, .fx ⟨#[60]⟩, .nu ⟨#[57]⟩, .fx ⟨#[59]⟩, .fx ⟨#[125]⟩], mkM true false ⟨#[118, 111, 105, 100]⟩ ⟨#[116, 49]⟩ [] [mkS 1 0 ⟨#[65]⟩ ⟨#[111]⟩ [mkE 9 0 E0 ⟨#[122]⟩ ⟨#[84]⟩ []] [] [] [], mkS 7 0 E0 E0 [mkE 10 0 E0 ⟨#[102]⟩ E0 [mkE 6 0 E0 ⟨#[111]⟩ E0 [], mkE 1 3 E0 E0 E0 []]] [] [] [], mkS 3 0 E0 E0 [mkE 10 0 E0 ⟨#[103, 50]⟩ E0 [mkE 6 0 E0 ⟨#[111]⟩ E0 []]] [] [] [], mkS 8 1 E0 E0 [mkE 17 0 E0 ⟨#[60]⟩ E0 [mkE 7 0 E0 ⟨#[120]⟩ E0 [mkE 6 0 E0 ⟨#[111]⟩ E0 []], mkE 1 9 E0 E0 E0 []]] [] [] []])
theorem mbt1 : Mb ⟨#[84]⟩ mt1 := ⟨fun X => by kernel_rfl, fun X => by kernel_rfl⟩
def mzA : It := ([.fx ⟨#[115, 116, 97, 116, 105, 99]⟩, .cl ⟨#[65]⟩, .nm ⟨#[122]⟩, .fx ⟨#[61]⟩, .fx ⟨#[110, 101, 119]⟩, .cl ⟨#[65]⟩, .fx ⟨#[40]⟩, .fx ⟨#[41]⟩, .fx ⟨#[59]⟩], mkF true ⟨#[65]⟩ ⟨#[122]⟩ [mkE 14 0 E0 E0 ⟨#[65]⟩ []])
theorem mbzA : Mb ⟨#[84]⟩ mzA := ⟨fun X => by kernel_rfl, fun X => by kernel_rfl⟩
def mz2 : It := ([.fx ⟨#[115, 116, 97, 116, 105, 99]⟩, .cl ⟨#[65]⟩, .nm ⟨#[122]⟩, .fx ⟨#[61]⟩, .fx ⟨#[110, 101, 119]⟩, .cl ⟨#[66]⟩, .fx ⟨#[40]⟩, .nu ⟨#[50]⟩, .fx ⟨#[41]⟩, .fx ⟨#[59]⟩], mkF true ⟨#[65]⟩ ⟨#[122]⟩ [mkE 14 0 E0 E0 ⟨#[66]⟩ [mkE 1 2 E0 E0 E0 []]])
theorem mbz2 : Mb ⟨#[84]⟩ mz2 := ⟨fun X => by kernel_rfl, fun X => by kernel_rfl⟩
def mz0 : It := ([.fx ⟨#[115, 116, 97, 116, 105, 99]⟩, .cl ⟨#[65]⟩, .nm ⟨#[122]⟩, .fx ⟨#[61]⟩, .fx ⟨#[110, 101, 119]⟩, .cl ⟨#[66]⟩, .fx ⟨#[40]⟩, .fx ⟨#[41]⟩, .fx ⟨#[59]⟩], mkF true ⟨#[65]⟩ ⟨#[122]⟩ [mkE 14 0 E0 E0 ⟨#[66]⟩ []])
theorem mbz0 : Mb ⟨#[84]⟩ mz0 := ⟨fun X => by kernel_rfl, fun X => by kernel_rfl⟩
def mzC : It := ([.fx ⟨#[115, 116, 97, 116, 105, 99]⟩, .cl ⟨#[65]⟩, .nm ⟨#[122]⟩, .fx ⟨#[61]⟩, .fx ⟨#[110, 101, 119]⟩, .cl ⟨#[67]⟩, .fx ⟨#[40]⟩, .fx ⟨#[41]⟩, .fx ⟨#[59]⟩], mkF true ⟨#[65]⟩ ⟨#[122]⟩ [mkE 14 0 E0 E0 ⟨#[67]⟩ []])
theorem mbzC : Mb ⟨#[84]⟩ mzC := ⟨fun X => by kernel_rfl, fun X => by kernel_rfl⟩
theorem symfA (Y : List Pr) : memM ⟨#[65]⟩ (S1 0 (hfA ++ Y)) = (mkM false false tInt ⟨#[102]⟩ [(tInt, ⟨#[97]⟩)] (bd false (S1 0 Y)).1, (bd false (S1 0 Y)).2) := by kernel_rfl
def mfA (L : List It) : It := (hfA ++ pBra :: (wcat L ++ [pKet]), mkM false false tInt ⟨#[102]⟩ [(tInt, ⟨#[97]⟩)] (ncat L))
theorem mbfA (L : List It) (h : ∀ i ∈ L, Gd1 i) : Mb ⟨#[65]⟩ (mfA L) := by
 have e : ∀ X, (mfA L).1 ++ X = hfA ++ (pBra :: (wcat L ++ pKet :: X)) := fun X => by simp [mfA]
 refine ⟨fun X => ?_, fun X => ?_⟩
 · rw [e]; kernel_rfl
 · rw [e, symfA, body_items L X h]; rfl
theorem symfB (Y : List Pr) : memM ⟨#[66]⟩ (S1 0 (hfB ++ Y)) = (mkM false false tInt ⟨#[102]⟩ [(tInt, ⟨#[97]⟩)] (bd false (S1 0 Y)).1, (bd false (S1 0 Y)).2) := by kernel_rfl
def mfB (L : List It) : It := (hfB ++ pBra :: (wcat L ++ [pKet]), mkM false false tInt ⟨#[102]⟩ [(tInt, ⟨#[97]⟩)] (ncat L))
theorem mbfB (L : List It) (h : ∀ i ∈ L, Gd1 i) : Mb ⟨#[66]⟩ (mfB L) := by
 have e : ∀ X, (mfB L).1 ++ X = hfB ++ (pBra :: (wcat L ++ pKet :: X)) := fun X => by simp [mfB]
 refine ⟨fun X => ?_, fun X => ?_⟩
 · rw [e]; kernel_rfl
 · rw [e, symfB, body_items L X h]; rfl
theorem symgC (Y : List Pr) : memM ⟨#[67]⟩ (S1 0 (hgC ++ Y)) = (mkM false false kVoid ⟨#[103, 50]⟩ [] (bd false (S1 0 Y)).1, (bd false (S1 0 Y)).2) := by kernel_rfl
def mgC (L : List It) : It := (hgC ++ pBra :: (wcat L ++ [pKet]), mkM false false kVoid ⟨#[103, 50]⟩ [] (ncat L))
theorem mbgC (L : List It) (h : ∀ i ∈ L, Gd1 i) : Mb ⟨#[67]⟩ (mgC L) := by
 have e : ∀ X, (mgC L).1 ++ X = hgC ++ (pBra :: (wcat L ++ pKet :: X)) := fun X => by simp [mgC]
 refine ⟨fun X => ?_, fun X => ?_⟩
 · rw [e]; kernel_rfl
 · rw [e, symgC, body_items L X h]; rfl
theorem symtT (Y : List Pr) : memM ⟨#[84]⟩ (S1 0 (htT ++ Y)) = (mkM true false kVoid ⟨#[116, 50]⟩ [] (bd false (S1 0 Y)).1, (bd false (S1 0 Y)).2) := by kernel_rfl
def mtT (L : List It) : It := (htT ++ pBra :: (wcat L ++ [pKet]), mkM true false kVoid ⟨#[116, 50]⟩ [] (ncat L))
theorem mbtT (L : List It) (h : ∀ i ∈ L, Gd1 i) : Mb ⟨#[84]⟩ (mtT L) := by
 have e : ∀ X, (mtT L).1 ++ X = htT ++ (pBra :: (wcat L ++ pKet :: X)) := fun X => by simp [mtT]
 refine ⟨fun X => ?_, fun X => ?_⟩
 · rw [e]; kernel_rfl
 · rw [e, symtT, body_items L X h]; rfl
end
set_option maxRecDepth 100000
section
open Go.RowKit
structure Sg where
 g : List UInt8
 c : UInt8
 w : List Pr
structure SgOk (s : Sg) : Prop where
 seg : segC s.g s.c s.w
 fine : ∀ b ∈ bks, bad (B (spB b s.g)) < 0
 hd : ∃ x t, s.g = x :: t ∧ x.toNat < 128
theorem fine_of {g : List UInt8} (h : bks.map (fun b => decide (bad (B (spB b g)) < 0)) = bks.map fun _ => true) : ∀ b ∈ bks, bad (B (spB b g)) < 0 := fun b hb => of_decide_eq_true (List.map_inj_left.1 h b hb)
def Path : UInt8 → List Sg → UInt8 → Prop
 | a, [], b => a = b
 | a, s :: L, b => s.g.head? = some a ∧ SgOk s ∧ Path s.c L b
theorem Path.app : ∀ {L M : List Sg} {a b c : UInt8}, Path a L b → Path b M c → Path a (L ++ M) c
 | [], M, a, b, c, h, k => by cases h; exact k
 | s :: L, M, a, b, c, ⟨h1, h2, h3⟩, k => ⟨h1, h2, Path.app h3 k⟩
def catS (b : List UInt8) (L : List Sg) : List UInt8 := L.flatMap fun s => spB b s.g
def wof (L : List Sg) : List Pr := L.flatMap (·.w)
theorem catS_app (b : List UInt8) (L M : List Sg) : catS b (L ++ M) = catS b L ++ catS b M := by simp [catS]
theorem wof_app (L M : List Sg) : wof (L ++ M) = wof L ++ wof M := by simp [wof]
theorem sp_head (b : List UInt8) (x : UInt8) (t : List UInt8) : ∃ u, spB b (x :: t) = x :: u := by
 unfold spB
 rw [List.flatMap_cons]
 split
 · exact ⟨_, rfl⟩
 · exact ⟨_, rfl⟩
theorem path_head (bb : List UInt8) : ∀ {L : List Sg} {a b : UInt8} {R : List UInt8}, Path a L b → R.head? = some b → (catS bb L ++ R).head? = some a
 | [], a, b, R, h, hR => by cases h; exact hR
 | s :: L, a, b, R, ⟨h1, h2, _⟩, hR => by
   obtain ⟨x, t, e, _⟩ := h2.hd
   obtain ⟨u, hu⟩ := sp_head bb x t
   rw [e] at h1
   have : x = a := by simpa using h1
   subst this
   simp [catS, e, hu]
def LxP (l : List UInt8) (P : List Pr) : Prop := ∃ Q, Lx l Q ∧ prs Q = P
theorem path_lx {bb : List UInt8} (hb : bb ∈ bks) : ∀ {L : List Sg} {a b : UInt8} {R : List UInt8} {P : List Pr}, Path a L b → R.head? = some b → LxP R P → LxP (catS bb L ++ R) (wof L ++ P)
 | [], a, b, R, P, _, _, hP => hP
 | s :: L, a, b, R, P, ⟨h1, h2, h3⟩, hR, hP => by
   obtain ⟨Q', h4, h5⟩ := path_lx hb h3 hR hP
   obtain ⟨Q, h6, h7⟩ := h2.seg bb hb
   refine ⟨Q ++ Q', ?_, ?_⟩
   · have := segF_is 1000 _ _ _ _ _ h6 (path_head bb h3 hR) h4
     simpa [catS] using this
   · simp only [prs, List.map_append, wof, List.flatMap_cons, List.append_assoc] at h5 h7 ⊢
     rw [h7, h5]
theorem bad_two (S R : List UInt8) (hR : low R) (hS : bad (B S) < 0) (hB : bad (B R) < 0) : bad (B (S ++ R)) < 0 := by
 have e1 := bad_mid [] S R hR S.length 0 (by omega) (Nat.zero_le _)
 have e2 := bad_mid S R [] (fun b hb => by simp at hb) R.length 0 (by omega) (Nat.zero_le _)
 simp only [List.nil_append, List.length_nil, Nat.add_zero, Nat.zero_add, List.append_nil] at e1 e2
 have h1 : badFrom (B S) 0 < 0 := hS
 have h2 : badFrom (B R) 0 < 0 := hB
 rw [if_pos h1] at e1
 rw [if_pos h2] at e2
 have e3 : badFrom (B (S ++ R)) (S.length + R.length) = -1 := badFrom_end _ _ (by rw [B_size]; simp)
 show badFrom (B (S ++ R)) 0 < 0
 rw [e1, e2, e3]; omega
theorem path_bad {bb : List UInt8} (hb : bb ∈ bks) : ∀ {L : List Sg} {a b : UInt8} {R : List UInt8}, Path a L b → R.head? = some b → low R → bad (B R) < 0 → bad (B (catS bb L ++ R)) < 0
 | [], a, b, R, _, _, _, h => h
 | s :: L, a, b, R, ⟨h1, h2, h3⟩, hR, hl, h => by
   have ih := path_bad hb h3 hR hl h
   have hh := path_head bb h3 hR
   have hlow : low (catS bb L ++ R) := by
     cases L with
     | nil => exact hl
     | cons t M =>
       obtain ⟨k1, k2, _⟩ := h3
       obtain ⟨x, u, e, hx⟩ := k2.hd
       intro y hy
       rw [hh] at hy
       rw [e] at k1
       have e1 : x = s.c := by simpa using k1
       have e2 : s.c = y := by simpa using hy
       rw [← e2, ← e1]; exact hx
   have := bad_two (spB bb s.g) (catS bb L ++ R) hlow (h2.fine bb hb) ih
   simpa [catS] using this
theorem lx_end : LxP [10] [] := ⟨[], fun a => ⟨rfl, rfl⟩, rfl⟩
theorem rs0_of (s : ByteArray) (P : List Pr) (hsz : ¬ 8000 < s.size) (hl : LxP s.data.toList P) (hb : bad s < 0) : er (RS0 s) = S1 0 P := by
 obtain ⟨Q, hq, rfl⟩ := hl
 obtain ⟨k1, k2⟩ := hq 0
 obtain ⟨a1, a2, a3⟩ := all_fine s hsz (cutL s.data.toList 0).1 (Prod.ext rfl k2) hb
 unfold RS0 er S1
 rw [a1, a2, ← k1]
 simp [Z, prs, plOf]
theorem okA1 : SgOk ⟨gA1, 32, wA1⟩ := ⟨cA1, fine_of (by kernel_rfl), ⟨_, _, rfl, by decide⟩⟩
theorem okA2 : SgOk ⟨gA2, 99, wA2⟩ := ⟨cA2, fine_of (by kernel_rfl), ⟨_, _, rfl, by decide⟩⟩
theorem okB1 : SgOk ⟨gB1, 32, wB1⟩ := ⟨cB1, fine_of (by kernel_rfl), ⟨_, _, rfl, by decide⟩⟩
theorem okB1r : SgOk ⟨gB1r, 32, wB1r⟩ := ⟨cB1r, fine_of (by kernel_rfl), ⟨_, _, rfl, by decide⟩⟩
theorem okB2 : SgOk ⟨gB2, 99, wB2⟩ := ⟨cB2, fine_of (by kernel_rfl), ⟨_, _, rfl, by decide⟩⟩
theorem okC1 : SgOk ⟨gC1, 32, wC1⟩ := ⟨cC1, fine_of (by kernel_rfl), ⟨_, _, rfl, by decide⟩⟩
theorem okC2 : SgOk ⟨gC2, 99, wC2⟩ := ⟨cC2, fine_of (by kernel_rfl), ⟨_, _, rfl, by decide⟩⟩
theorem okTA : SgOk ⟨gTA, 32, wTA⟩ := ⟨cTA, fine_of (by kernel_rfl), ⟨_, _, rfl, by decide⟩⟩
theorem okT2 : SgOk ⟨gT2, 32, wT2⟩ := ⟨cT2, fine_of (by kernel_rfl), ⟨_, _, rfl, by decide⟩⟩
theorem okT0 : SgOk ⟨gT0, 32, wT0⟩ := ⟨cT0, fine_of (by kernel_rfl), ⟨_, _, rfl, by decide⟩⟩
theorem okTC : SgOk ⟨gTC, 32, wTC⟩ := ⟨cTC, fine_of (by kernel_rfl), ⟨_, _, rfl, by decide⟩⟩
theorem okT4 : SgOk ⟨gT4, 10, wT4⟩ := ⟨cT4, fine_of (by kernel_rfl), ⟨_, _, rfl, by decide⟩⟩
theorem okI0 : SgOk ⟨gI0, 32, wI0⟩ := ⟨cI0, fine_of (by kernel_rfl), ⟨_, _, rfl, by decide⟩⟩
theorem okI1 : SgOk ⟨gI1, 32, wI1⟩ := ⟨cI1, fine_of (by kernel_rfl), ⟨_, _, rfl, by decide⟩⟩
theorem okI2 : SgOk ⟨gI2, 32, wI2⟩ := ⟨cI2, fine_of (by kernel_rfl), ⟨_, _, rfl, by decide⟩⟩
theorem okI3 : SgOk ⟨gI3, 32, wI3⟩ := ⟨cI3, fine_of (by kernel_rfl), ⟨_, _, rfl, by decide⟩⟩
theorem okI4 : SgOk ⟨gI4, 32, wI4⟩ := ⟨cI4, fine_of (by kernel_rfl), ⟨_, _, rfl, by decide⟩⟩
theorem okI5 : SgOk ⟨gI5, 32, wI5⟩ := ⟨cI5, fine_of (by kernel_rfl), ⟨_, _, rfl, by decide⟩⟩
theorem okI6 : SgOk ⟨gI6, 32, wI6⟩ := ⟨cI6, fine_of (by kernel_rfl), ⟨_, _, rfl, by decide⟩⟩
theorem okI7 : SgOk ⟨gI7, 32, wI7⟩ := ⟨cI7, fine_of (by kernel_rfl), ⟨_, _, rfl, by decide⟩⟩
theorem okI8 : SgOk ⟨gI8, 32, wI8⟩ := ⟨cI8, fine_of (by kernel_rfl), ⟨_, _, rfl, by decide⟩⟩
theorem okI9 : SgOk ⟨gI9, 32, wI9⟩ := ⟨cI9, fine_of (by kernel_rfl), ⟨_, _, rfl, by decide⟩⟩
theorem okI10 : SgOk ⟨gI10, 32, wI10⟩ := ⟨cI10, fine_of (by kernel_rfl), ⟨_, _, rfl, by decide⟩⟩
theorem okI11 : SgOk ⟨gI11, 32, wI11⟩ := ⟨cI11, fine_of (by kernel_rfl), ⟨_, _, rfl, by decide⟩⟩
theorem okI12 : SgOk ⟨gI12, 32, wI12⟩ := ⟨cI12, fine_of (by kernel_rfl), ⟨_, _, rfl, by decide⟩⟩
theorem okI13 : SgOk ⟨gI13, 32, wI13⟩ := ⟨cI13, fine_of (by kernel_rfl), ⟨_, _, rfl, by decide⟩⟩
theorem okI14 : SgOk ⟨gI14, 32, wI14⟩ := ⟨cI14, fine_of (by kernel_rfl), ⟨_, _, rfl, by decide⟩⟩
theorem okI15 : SgOk ⟨gI15, 32, wI15⟩ := ⟨cI15, fine_of (by kernel_rfl), ⟨_, _, rfl, by decide⟩⟩
theorem okI16 : SgOk ⟨gI16, 32, wI16⟩ := ⟨cI16, fine_of (by kernel_rfl), ⟨_, _, rfl, by decide⟩⟩
theorem okI17 : SgOk ⟨gI17, 32, wI17⟩ := ⟨cI17, fine_of (by kernel_rfl), ⟨_, _, rfl, by decide⟩⟩
theorem okI18 : SgOk ⟨gI18, 32, wI18⟩ := ⟨cI18, fine_of (by kernel_rfl), ⟨_, _, rfl, by decide⟩⟩
theorem okI19 : SgOk ⟨gI19, 32, wI19⟩ := ⟨cI19, fine_of (by kernel_rfl), ⟨_, _, rfl, by decide⟩⟩
theorem okI20 : SgOk ⟨gI20, 32, wI20⟩ := ⟨cI20, fine_of (by kernel_rfl), ⟨_, _, rfl, by decide⟩⟩
theorem okI21 : SgOk ⟨gI21, 32, wI21⟩ := ⟨cI21, fine_of (by kernel_rfl), ⟨_, _, rfl, by decide⟩⟩
theorem okI22 : SgOk ⟨gI22, 32, wI22⟩ := ⟨cI22, fine_of (by kernel_rfl), ⟨_, _, rfl, by decide⟩⟩
theorem okI23 : SgOk ⟨gI23, 32, wI23⟩ := ⟨cI23, fine_of (by kernel_rfl), ⟨_, _, rfl, by decide⟩⟩
theorem okI24 : SgOk ⟨gI24, 32, wI24⟩ := ⟨cI24, fine_of (by kernel_rfl), ⟨_, _, rfl, by decide⟩⟩
theorem okI25 : SgOk ⟨gI25, 32, wI25⟩ := ⟨cI25, fine_of (by kernel_rfl), ⟨_, _, rfl, by decide⟩⟩
theorem okI26 : SgOk ⟨gI26, 32, wI26⟩ := ⟨cI26, fine_of (by kernel_rfl), ⟨_, _, rfl, by decide⟩⟩
theorem okI27 : SgOk ⟨gI27, 32, wI27⟩ := ⟨cI27, fine_of (by kernel_rfl), ⟨_, _, rfl, by decide⟩⟩
theorem okS0 : SgOk ⟨gS0, 32, wS0⟩ := ⟨cS0, fine_of (by kernel_rfl), ⟨_, _, rfl, by decide⟩⟩
theorem okS1 : SgOk ⟨gS1, 32, wS1⟩ := ⟨cS1, fine_of (by kernel_rfl), ⟨_, _, rfl, by decide⟩⟩
theorem okS2 : SgOk ⟨gS2, 32, wS2⟩ := ⟨cS2, fine_of (by kernel_rfl), ⟨_, _, rfl, by decide⟩⟩
theorem okS3 : SgOk ⟨gS3, 32, wS3⟩ := ⟨cS3, fine_of (by kernel_rfl), ⟨_, _, rfl, by decide⟩⟩
theorem okS4 : SgOk ⟨gS4, 32, wS4⟩ := ⟨cS4, fine_of (by kernel_rfl), ⟨_, _, rfl, by decide⟩⟩
theorem okS5 : SgOk ⟨gS5, 32, wS5⟩ := ⟨cS5, fine_of (by kernel_rfl), ⟨_, _, rfl, by decide⟩⟩
theorem okS6 : SgOk ⟨gS6, 32, wS6⟩ := ⟨cS6, fine_of (by kernel_rfl), ⟨_, _, rfl, by decide⟩⟩
theorem okO0 : SgOk ⟨gO0, 32, wO0⟩ := ⟨cO0, fine_of (by kernel_rfl), ⟨_, _, rfl, by decide⟩⟩
theorem okO1 : SgOk ⟨gO1, 32, wO1⟩ := ⟨cO1, fine_of (by kernel_rfl), ⟨_, _, rfl, by decide⟩⟩
theorem okO2 : SgOk ⟨gO2, 32, wO2⟩ := ⟨cO2, fine_of (by kernel_rfl), ⟨_, _, rfl, by decide⟩⟩
theorem okO3 : SgOk ⟨gO3, 32, wO3⟩ := ⟨cO3, fine_of (by kernel_rfl), ⟨_, _, rfl, by decide⟩⟩
theorem okO4 : SgOk ⟨gO4, 32, wO4⟩ := ⟨cO4, fine_of (by kernel_rfl), ⟨_, _, rfl, by decide⟩⟩
theorem okO5 : SgOk ⟨gO5, 32, wO5⟩ := ⟨cO5, fine_of (by kernel_rfl), ⟨_, _, rfl, by decide⟩⟩
theorem okO6 : SgOk ⟨gO6, 32, wO6⟩ := ⟨cO6, fine_of (by kernel_rfl), ⟨_, _, rfl, by decide⟩⟩
theorem okO7 : SgOk ⟨gO7, 32, wO7⟩ := ⟨cO7, fine_of (by kernel_rfl), ⟨_, _, rfl, by decide⟩⟩
theorem okO8 : SgOk ⟨gO8, 32, wO8⟩ := ⟨cO8, fine_of (by kernel_rfl), ⟨_, _, rfl, by decide⟩⟩
theorem okO9 : SgOk ⟨gO9, 32, wO9⟩ := ⟨cO9, fine_of (by kernel_rfl), ⟨_, _, rfl, by decide⟩⟩
theorem okO10 : SgOk ⟨gO10, 32, wO10⟩ := ⟨cO10, fine_of (by kernel_rfl), ⟨_, _, rfl, by decide⟩⟩
theorem okO11 : SgOk ⟨gO11, 32, wO11⟩ := ⟨cO11, fine_of (by kernel_rfl), ⟨_, _, rfl, by decide⟩⟩
def tI : List (Sg × It) := [(⟨gI0, 32, wI0⟩, (wI0, nI0)), (⟨gI1, 32, wI1⟩, (wI1, nI1)), (⟨gI2, 32, wI2⟩, (wI2, nI2)), (⟨gI3, 32, wI3⟩, (wI3, nI3)), (⟨gI4, 32, wI4⟩, (wI4, nI4)), (⟨gI5, 32, wI5⟩, (wI5, nI5)), (⟨gI6, 32, wI6⟩, (wI6, nI6)), (⟨gI7, 32, wI7⟩, (wI7, nI7)), (⟨gI8, 32, wI8⟩, (wI8, nI8)), (⟨gI9, 32, wI9⟩, (wI9, nI9)), (⟨gI10, 32, wI10⟩, (wI10, nI10)), (⟨gI11, 32, wI11⟩, (wI11, nI11)), (⟨gI12, 32, wI12⟩, (wI12, nI12)), (⟨gI13, 32, wI13⟩, (wI13, nI13)), (⟨gI14, 32, wI14⟩, (wI14, nI14)), (⟨gI15, 32, wI15⟩, (wI15, nI15)), (⟨gI16, 32, wI16⟩, (wI16, nI16)), (⟨gI17, 32, wI17⟩, (wI17, nI17)), (⟨gI18, 32, wI18⟩, (wI18, nI18)), (⟨gI19, 32, wI19⟩, (wI19, nI19)), (⟨gI20, 32, wI20⟩, (wI20, nI20)), (⟨gI21, 32, wI21⟩, (wI21, nI21)), (⟨gI22, 32, wI22⟩, (wI22, nI22)), (⟨gI23, 32, wI23⟩, (wI23, nI23)), (⟨gI24, 32, wI24⟩, (wI24, nI24)), (⟨gI25, 32, wI25⟩, (wI25, nI25)), (⟨gI26, 32, wI26⟩, (wI26, nI26)), (⟨gI27, 32, wI27⟩, (wI27, nI27))]
theorem ok_tI : ∀ x ∈ tI, SgOk x.1 ∧ x.1.g.head? = some 32 ∧ x.1.c = 32 ∧ x.1.w = x.2.1 ∧ Gd1 x.2 := by
 intro x hx
 unfold tI at hx
 simp only [List.mem_cons, List.not_mem_nil, or_false] at hx
 rcases hx with rfl | rfl | rfl | rfl | rfl | rfl | rfl | rfl | rfl | rfl | rfl | rfl | rfl | rfl | rfl | rfl | rfl | rfl | rfl | rfl | rfl | rfl | rfl | rfl | rfl | rfl | rfl | rfl
 · exact ⟨okI0, rfl, rfl, rfl, goodI0, _, _, rfl, by simp [fol]⟩
 · exact ⟨okI1, rfl, rfl, rfl, goodI1, _, _, rfl, by simp [fol]⟩
 · exact ⟨okI2, rfl, rfl, rfl, goodI2, _, _, rfl, by simp [fol]⟩
 · exact ⟨okI3, rfl, rfl, rfl, goodI3, _, _, rfl, by simp [fol]⟩
 · exact ⟨okI4, rfl, rfl, rfl, goodI4, _, _, rfl, by simp [fol]⟩
 · exact ⟨okI5, rfl, rfl, rfl, goodI5, _, _, rfl, by simp [fol]⟩
 · exact ⟨okI6, rfl, rfl, rfl, goodI6, _, _, rfl, by simp [fol]⟩
 · exact ⟨okI7, rfl, rfl, rfl, goodI7, _, _, rfl, by simp [fol]⟩
 · exact ⟨okI8, rfl, rfl, rfl, goodI8, _, _, rfl, by simp [fol]⟩
 · exact ⟨okI9, rfl, rfl, rfl, goodI9, _, _, rfl, by simp [fol]⟩
 · exact ⟨okI10, rfl, rfl, rfl, goodI10, _, _, rfl, by simp [fol]⟩
 · exact ⟨okI11, rfl, rfl, rfl, goodI11, _, _, rfl, by simp [fol]⟩
 · exact ⟨okI12, rfl, rfl, rfl, goodI12, _, _, rfl, by simp [fol]⟩
 · exact ⟨okI13, rfl, rfl, rfl, goodI13, _, _, rfl, by simp [fol]⟩
 · exact ⟨okI14, rfl, rfl, rfl, goodI14, _, _, rfl, by simp [fol]⟩
 · exact ⟨okI15, rfl, rfl, rfl, goodI15, _, _, rfl, by simp [fol]⟩
 · exact ⟨okI16, rfl, rfl, rfl, goodI16, _, _, rfl, by simp [fol]⟩
 · exact ⟨okI17, rfl, rfl, rfl, goodI17, _, _, rfl, by simp [fol]⟩
 · exact ⟨okI18, rfl, rfl, rfl, goodI18, _, _, rfl, by simp [fol]⟩
 · exact ⟨okI19, rfl, rfl, rfl, goodI19, _, _, rfl, by simp [fol]⟩
 · exact ⟨okI20, rfl, rfl, rfl, goodI20, _, _, rfl, by simp [fol]⟩
 · exact ⟨okI21, rfl, rfl, rfl, goodI21, _, _, rfl, by simp [fol]⟩
 · exact ⟨okI22, rfl, rfl, rfl, goodI22, _, _, rfl, by simp [fol]⟩
 · exact ⟨okI23, rfl, rfl, rfl, goodI23, _, _, rfl, by simp [fol]⟩
 · exact ⟨okI24, rfl, rfl, rfl, goodI24, _, _, rfl, by simp [fol]⟩
 · exact ⟨okI25, rfl, rfl, rfl, goodI25, _, _, rfl, by simp [fol]⟩
 · exact ⟨okI26, rfl, rfl, rfl, goodI26, _, _, rfl, by simp [fol]⟩
 · exact ⟨okI27, rfl, rfl, rfl, goodI27, _, _, rfl, by simp [fol]⟩
def tS : List (Sg × It) := [(⟨gS0, 32, wS0⟩, (wS0, nS0)), (⟨gS1, 32, wS1⟩, (wS1, nS1)), (⟨gS2, 32, wS2⟩, (wS2, nS2)), (⟨gS3, 32, wS3⟩, (wS3, nS3)), (⟨gS4, 32, wS4⟩, (wS4, nS4)), (⟨gS5, 32, wS5⟩, (wS5, nS5)), (⟨gS6, 32, wS6⟩, (wS6, nS6))]
theorem ok_tS : ∀ x ∈ tS, SgOk x.1 ∧ x.1.g.head? = some 32 ∧ x.1.c = 32 ∧ x.1.w = x.2.1 ∧ Gd1 x.2 := by
 intro x hx
 unfold tS at hx
 simp only [List.mem_cons, List.not_mem_nil, or_false] at hx
 rcases hx with rfl | rfl | rfl | rfl | rfl | rfl | rfl
 · exact ⟨okS0, rfl, rfl, rfl, goodS0, _, _, rfl, by simp [fol]⟩
 · exact ⟨okS1, rfl, rfl, rfl, goodS1, _, _, rfl, by simp [fol]⟩
 · exact ⟨okS2, rfl, rfl, rfl, goodS2, _, _, rfl, by simp [fol]⟩
 · exact ⟨okS3, rfl, rfl, rfl, goodS3, _, _, rfl, by simp [fol]⟩
 · exact ⟨okS4, rfl, rfl, rfl, goodS4, _, _, rfl, by simp [fol]⟩
 · exact ⟨okS5, rfl, rfl, rfl, goodS5, _, _, rfl, by simp [fol]⟩
 · exact ⟨okS6, rfl, rfl, rfl, goodS6, _, _, rfl, by simp [fol]⟩
def tO : List (Sg × It) := [(⟨gO0, 32, wO0⟩, (wO0, nO0)), (⟨gO1, 32, wO1⟩, (wO1, nO1)), (⟨gO2, 32, wO2⟩, (wO2, nO2)), (⟨gO3, 32, wO3⟩, (wO3, nO3)), (⟨gO4, 32, wO4⟩, (wO4, nO4)), (⟨gO5, 32, wO5⟩, (wO5, nO5)), (⟨gO6, 32, wO6⟩, (wO6, nO6)), (⟨gO7, 32, wO7⟩, (wO7, nO7)), (⟨gO8, 32, wO8⟩, (wO8, nO8)), (⟨gO9, 32, wO9⟩, (wO9, nO9)), (⟨gO10, 32, wO10⟩, (wO10, nO10)), (⟨gO11, 32, wO11⟩, (wO11, nO11))]
theorem ok_tO : ∀ x ∈ tO, SgOk x.1 ∧ x.1.g.head? = some 32 ∧ x.1.c = 32 ∧ x.1.w = x.2.1 ∧ Gd1 x.2 := by
 intro x hx
 unfold tO at hx
 simp only [List.mem_cons, List.not_mem_nil, or_false] at hx
 rcases hx with rfl | rfl | rfl | rfl | rfl | rfl | rfl | rfl | rfl | rfl | rfl | rfl
 · exact ⟨okO0, rfl, rfl, rfl, goodO0, _, _, rfl, by simp [fol]⟩
 · exact ⟨okO1, rfl, rfl, rfl, goodO1, _, _, rfl, by simp [fol]⟩
 · exact ⟨okO2, rfl, rfl, rfl, goodO2, _, _, rfl, by simp [fol]⟩
 · exact ⟨okO3, rfl, rfl, rfl, goodO3, _, _, rfl, by simp [fol]⟩
 · exact ⟨okO4, rfl, rfl, rfl, goodO4, _, _, rfl, by simp [fol]⟩
 · exact ⟨okO5, rfl, rfl, rfl, goodO5, _, _, rfl, by simp [fol]⟩
 · exact ⟨okO6, rfl, rfl, rfl, goodO6, _, _, rfl, by simp [fol]⟩
 · exact ⟨okO7, rfl, rfl, rfl, goodO7, _, _, rfl, by simp [fol]⟩
 · exact ⟨okO8, rfl, rfl, rfl, goodO8, _, _, rfl, by simp [fol]⟩
 · exact ⟨okO9, rfl, rfl, rfl, goodO9, _, _, rfl, by simp [fol]⟩
 · exact ⟨okO10, rfl, rfl, rfl, goodO10, _, _, rfl, by simp [fol]⟩
 · exact ⟨okO11, rfl, rfl, rfl, goodO11, _, _, rfl, by simp [fol]⟩
theorem bytesI : tI.map (fun x => x.1.g) = allI.map fun b => 32 :: b.data.toList := by kernel_rfl
theorem bytesS : tS.map (fun x => x.1.g) = allS.map fun b => 32 :: b.data.toList := by kernel_rfl
theorem bytesO : tO.map (fun x => x.1.g) = allO.map fun b => 32 :: b.data.toList := by kernel_rfl
theorem gdFo : Gd1 (iFo, nFo) := ⟨goodFo, _, _, rfl, by simp [fol]⟩
theorem gdFt : Gd1 (iFt, nFt) := ⟨goodFt, _, _, rfl, by simp [fol]⟩
theorem gdFc : Gd1 (iFc, nFc) := ⟨goodFc, _, _, rfl, by simp [fol]⟩
theorem gdFa : Gd1 (iFa, nFa) := ⟨goodFa, _, _, rfl, by simp [fol]⟩
theorem gdFg : Gd1 (iFg, nFg) := ⟨goodFg, _, _, rfl, by simp [fol]⟩
theorem gdFrx : Gd1 (iFrx, nFrx) := ⟨goodFrx, _, _, rfl, by simp [fol]⟩
theorem gdFry : Gd1 (iFry, nFry) := ⟨goodFry, _, _, rfl, by simp [fol]⟩
theorem gdFmA : Gd1 (iFmA, nFmA) := ⟨goodFmA, _, _, rfl, by simp [fol]⟩
theorem gdFm2 : Gd1 (iFm2, nFm2) := ⟨goodFm2, _, _, rfl, by simp [fol]⟩
theorem gdFm0 : Gd1 (iFm0, nFm0) := ⟨goodFm0, _, _, rfl, by simp [fol]⟩
theorem gdFmC : Gd1 (iFmC, nFmC) := ⟨goodFmC, _, _, rfl, by simp [fol]⟩
end
set_option maxRecDepth 100000
section
open Go.RowKit
abbrev Pc := Sg × It
theorem sp_nil (l : List UInt8) : spB [] l = l := by
 unfold spB
 induction l with
 | nil => rfl
 | cons x t ih => rw [List.flatMap_cons, ih]; split <;> rfl
theorem catS_nil (L : List Sg) : catS [] L = L.flatMap (·.g) := by
 unfold catS
 induction L with
 | nil => rfl
 | cons s L ih => simp only [List.flatMap_cons, sp_nil, ih]
theorem ba_app (a b : ByteArray) : (a ++ b).data.toList = a.data.toList ++ b.data.toList := by simp
theorem u64_nonneg (z : Int) : 0 ≤ IntKind.u64.wrap z := by rw [IntKind.wrap_u64]; omega
theorem pk_at (L : List ByteArray) (z : Int) (h : L ≠ []) : ∃ i, i < L.length ∧ ((IntKind.u64.wrap z).tmod (L.length : Int)).toNat = i ∧ L[i]? = some (pk L z) := by
 have h0 : 0 < L.length := List.length_pos_iff.2 h
 have hw := u64_nonneg z
 have h1 : (IntKind.u64.wrap z).tmod (L.length : Int) = (IntKind.u64.wrap z) % (L.length : Int) := Int.tmod_eq_emod_of_nonneg hw
 have h2 : 0 ≤ (IntKind.u64.wrap z) % (L.length : Int) := Int.emod_nonneg _ (by omega)
 have h3 : (IntKind.u64.wrap z) % (L.length : Int) < L.length := Int.emod_lt_of_pos _ (by omega)
 refine ⟨_, ?_, rfl, ?_⟩
 · rw [h1]; omega
 · unfold pk
   rw [h1]
   rw [List.getElem?_eq_getElem (show ((IntKind.u64.wrap z) % (L.length : Int)).toNat < L.length by omega)]
   rfl
theorem pk_mem (L : List ByteArray) (z : Int) (h : L ≠ []) : pk L z ∈ L := by
 obtain ⟨i, _, _, e⟩ := pk_at L z h
 exact List.mem_of_getElem? e
theorem pk_pc {T : List Pc} {L : List ByteArray} (hT : T.map (fun x => x.1.g) = L.map fun b => 32 :: b.data.toList) (h : L ≠ []) (z : Int) : ∃ x ∈ T, x.1.g = 32 :: (pk L z).data.toList := by
 obtain ⟨i, hi, _, e⟩ := pk_at L z h
 have hl : T.length = L.length := by have := congrArg List.length hT; simpa using this
 have hg := congrArg (fun l => l[i]?) hT
 simp only [List.getElem?_map, e, Option.map_some] at hg
 rw [List.getElem?_eq_getElem (show i < T.length by omega)] at hg
 exact ⟨T[i]'(by omega), List.getElem_mem _, by simpa using hg⟩
theorem jn_pc {T : List Pc} {L : List ByteArray} (hT : T.map (fun x => x.1.g) = L.map fun b => 32 :: b.data.toList) (h : L ≠ []) : ∀ (zs : List Int) (t : ByteArray),
   ∃ X : List Pc, (∀ x ∈ X, x ∈ T) ∧ X.length = zs.length ∧ (zs.foldl (fun t z => t ++ ⟨#[32]⟩ ++ pk L z) t).data.toList = t.data.toList ++ catS [] (X.map (·.1))
 | [], t => ⟨[], by simp, rfl, by simp [catS]⟩
 | z :: zs, t => by
   obtain ⟨x, hx, e⟩ := pk_pc hT h z
   obtain ⟨X, h1, h2, h3⟩ := jn_pc hT h zs (t ++ ⟨#[32]⟩ ++ pk L z)
   refine ⟨x :: X, ?_, by simp [h2], ?_⟩
   · intro y hy
     rcases List.mem_cons.1 hy with rfl | hy
     · exact hx
     · exact h1 y hy
   · rw [List.foldl_cons, h3, catS_nil, catS_nil]
     simp [e]
theorem jnl_pc {T : List Pc} {L : List ByteArray} (hT : T.map (fun x => x.1.g) = L.map fun b => 32 :: b.data.toList) (h : L ≠ []) (zs : List Int) :
   ∃ X : List Pc, (∀ x ∈ X, x ∈ T) ∧ X.length = zs.length ∧ (jnl L zs).data.toList = catS [] (X.map (·.1)) := by
 obtain ⟨X, h1, h2, h3⟩ := jn_pc hT h zs ⟨#[]⟩
 exact ⟨X, h1, h2, by unfold jnl; rw [h3]; rfl⟩
def PcOk (x : Pc) : Prop := SgOk x.1 ∧ x.1.g.head? = some 32 ∧ x.1.c = 32 ∧ x.1.w = x.2.1 ∧ Gd1 x.2
theorem ok_tIS : ∀ x ∈ tI ++ tS, PcOk x := fun x hx => by
 rcases List.mem_append.1 hx with h | h
 · exact ok_tI x h
 · exact ok_tS x h
theorem bytesIS : (tI ++ tS).map (fun x => x.1.g) = (allI ++ allS).map fun b => 32 :: b.data.toList := by rw [List.map_append, List.map_append, bytesI, bytesS]
theorem path_pc : ∀ {X : List Pc}, (∀ x ∈ X, PcOk x) → Path 32 (X.map (·.1)) 32
 | [], _ => rfl
 | x :: X, h => by
   obtain ⟨h1, h2, h3, _⟩ := h x (by simp)
   refine ⟨h2, h1, ?_⟩
   rw [h3]
   exact path_pc fun y hy => h y (by simp [hy])
theorem wof_pc : ∀ {X : List Pc}, (∀ x ∈ X, PcOk x) → wof (X.map (·.1)) = wcat (X.map (·.2))
 | [], _ => rfl
 | x :: X, h => by
   obtain ⟨_, _, _, h4, _⟩ := h x (by simp)
   have ih := wof_pc (X := X) fun y hy => h y (by simp [hy])
   simp only [wof, wcat, List.map_cons, List.flatMap_cons] at ih ⊢
   rw [h4, ih]
/-! ### The text that takes another one's place -/
def rL : List UInt8 := [65, 32, 111, 32, 61, 32, 116, 104, 105, 115, 59]
def noB (g : List UInt8) : Bool := ((List.range g.length).all fun i => !((g.drop i).take 11 == rL)) && (match g.getLast? with | some x => x == 59 || (x == 125 || x == 10) | none => false)
theorem noB_is {g : List UInt8} (h : noB g = true) (Z : List UInt8) (i : Nat) (hi : i < g.length) : ((g ++ Z).drop i).take 11 ≠ rL := by
 unfold noB at h
 rw [Bool.and_eq_true, List.all_eq_true] at h
 obtain ⟨h1, h2⟩ := h
 have h1 := h1 i (List.mem_range.2 hi)
 have h1 : (g.drop i).take 11 ≠ rL := by simpa using h1
 rw [List.drop_append_of_le_length (by omega)]
 by_cases hl : 11 ≤ (g.drop i).length
 · rw [List.take_append_of_le_length hl]; exact h1
 · intro e
   rw [List.length_drop] at hl
   split at h2
   · rename_i x hx
     have hx' : g[g.length - 1]? = some x := by rw [← List.getLast?_eq_getElem?]; exact hx
     have hq : rL[g.length - 1 - i]? = some x := by
       rw [← e, List.getElem?_take, if_pos (by omega), List.getElem?_append_left (by rw [List.length_drop]; omega), List.getElem?_drop]
       rw [show i + (g.length - 1 - i) = g.length - 1 by omega]; exact hx'
     have hk : g.length - 1 - i < 10 := by omega
     have key : ∀ k, k < 10 → ∀ x, rL[k]? = some x → (x == 59 || (x == 125 || x == 10)) = false := by decide
     rw [key _ hk x hq] at h2; cases h2
   · cases h2
theorem noB_cat : ∀ (L : List (List UInt8)) (Z : List UInt8), (∀ g ∈ L, noB g = true) → ∀ j, j < L.flatten.length → ((L.flatten ++ Z).drop j).take 11 ≠ rL
 | [], Z, _, j, hj => by simp at hj
 | g :: L, Z, h, j, hj => by
   rw [List.flatten_cons, List.append_assoc]
   by_cases hg : j < g.length
   · exact noB_is (h g (by simp)) _ j hg
   · rw [List.flatten_cons, List.length_append] at hj
     have := noB_cat L Z (fun x hx => h x (by simp [hx])) (j - g.length) (by omega)
     rw [List.drop_append, List.drop_of_length_le (by omega), List.nil_append]
     exact this
theorem toList_data (s : ByteArray) : s.toList = s.data.toList := by rw [ByteArray.toList_eq]
theorem repF_at (s a b : ByteArray) (U V : List UInt8) (hs : s.data.toList = U ++ (a.data.toList ++ V)) (ha : a.data.toList = rL) (hno : ∀ j, j < U.length → ((s.data.toList).drop j).take 11 ≠ rL) :
   ∀ (n j : Nat), j ≤ U.length → U.length < n + j → (repF n s a b j).data.toList = U ++ (b.data.toList ++ V)
 | 0, j, h1, h2 => by omega
 | n + 1, j, h1, h2 => by
   have hsz : s.size = U.length + (11 + V.length) := by
     have := congrArg List.length hs
     rw [ha] at this
     simp [rL] at this
     omega
   have hasz : a.size = 11 := by have := congrArg List.length ha; simpa [rL] using this
   have hext : ∀ p q, (s.extract p q).data.toList = (s.data.toList.drop p).take (q - p) := by
     intro p q
     rw [ByteArray.data_extract, Array.toList_extract, List.extract]
   rw [repF, hasz, if_pos (by omega)]
   have hw : (s.extract j (j + 11)).toList = (s.data.toList.drop j).take 11 := by rw [toList_data, hext, Nat.add_sub_cancel_left]
   rw [hw, toList_data, ha]
   by_cases hj : j = U.length
   · subst hj
     have : (s.data.toList.drop U.length).take 11 = rL := by rw [hs, List.drop_left, ha]; simp [rL]
     have h11 : rL.length = 11 := rfl
     have e1 : ((U ++ (rL ++ V)).drop 0).take (U.length - 0) = U := by rw [List.drop_zero, Nat.sub_zero, List.take_left]
     have e2 : ((U ++ (rL ++ V)).drop (U.length + 11)).take (s.size - (U.length + 11)) = V := by
       rw [← List.drop_drop, List.drop_left, ← h11, List.drop_left, List.take_of_length_le (by omega)]
     rw [if_pos this, ba_app, ba_app, hext, hext, hs, ha, e1, e2, List.append_assoc]
   · rw [if_neg (hno j (by omega))]
     exact repF_at s a b U V hs ha hno n (j + 1) (by omega) (by omega)
end
set_option maxRecDepth 100000
section
open Go.RowKit
def fsts (X : List Pc) : List Sg := X.map (·.1)
def secA (X : List Pc) : List Sg := ⟨gA1, 32, wA1⟩ :: (fsts X ++ [⟨gA2, 99, wA2⟩])
def secB (X : List Pc) : List Sg := ⟨gB1, 32, wB1⟩ :: (fsts X ++ [⟨gB2, 99, wB2⟩])
def secR (X : List Pc) : List Sg := ⟨gB1r, 32, wB1r⟩ :: (fsts X ++ [⟨gB2, 99, wB2⟩])
def secC (X : List Pc) : List Sg := ⟨gC1, 32, wC1⟩ :: (fsts X ++ [⟨gC2, 99, wC2⟩])
def secT (s : Sg) (X : List Pc) : List Sg := s :: (fsts X ++ [⟨gT4, 10, wT4⟩])
def sgT : List Sg := [⟨gTA, 32, wTA⟩, ⟨gT2, 32, wT2⟩, ⟨gT0, 32, wT0⟩, ⟨gTC, 32, wTC⟩]
theorem bA1 : sA1.data.toList = gA1 := rfl
theorem bA2 : sA2.data.toList = gA2 := rfl
theorem bB1 : sB1.data.toList = gB1 := rfl
theorem bB2 : sB2.data.toList = gB2 := rfl
theorem bC1 : sC1.data.toList = gC1 := rfl
theorem bC2 : sC2.data.toList = gC2 := rfl
theorem bT4 : sT4.data.toList = gT4 ++ [10] := rfl
theorem catS_cons (s : Sg) (L : List Sg) : catS [] (s :: L) = s.g ++ catS [] L := by rw [catS_nil, catS_nil]; rfl
theorem catS_one (s : Sg) : catS [] [s] = s.g := by rw [catS_nil]; simp
theorem catS_sec (s t : Sg) (X : List Pc) : catS [] (s :: (fsts X ++ [t])) = s.g ++ (catS [] (fsts X) ++ t.g) := by rw [catS_cons, catS_app, catS_one]
theorem allI_ne : allI ≠ [] := by unfold allI; simp
theorem allIS_ne : allI ++ allS ≠ [] := by unfold allI; simp
theorem allO_ne : allO ≠ [] := by unfold allO; simp
theorem made_sg (m : ByteArray) (h : m = mA ∨ m = mB2 ∨ m = mB0 ∨ m = mC) : ∃ s ∈ sgT, s.g = sT1.data.toList ++ (m.data.toList ++ (sT2.data.toList ++ (m.data.toList ++ sT3.data.toList))) := by
 rcases h with rfl | rfl | rfl | rfl
 · exact ⟨⟨gTA, 32, wTA⟩, by simp [sgT], rfl⟩
 · exact ⟨⟨gT2, 32, wT2⟩, by simp [sgT], rfl⟩
 · exact ⟨⟨gT0, 32, wT0⟩, by simp [sgT], rfl⟩
 · exact ⟨⟨gTC, 32, wTC⟩, by simp [sgT], rfl⟩
theorem m2_in (zss : List (List Int)) : srcM2 zss = mA ∨ srcM2 zss = mB2 ∨ srcM2 zss = mB0 := by
 unfold srcM2
 split
 · have := pk_mem [mB2, mB0, mA] ((atT zss 1).length : Int) (by simp)
   simp only [List.mem_cons, List.not_mem_nil, or_false] at this
   rcases this with h | h | h <;> simp [h]
 · exact .inl rfl
theorem m3_in (zss : List (List Int)) : srcM3 zss = mA ∨ srcM3 zss = mB2 ∨ srcM3 zss = mB0 ∨ srcM3 zss = mC := by
 unfold srcM3
 have h2 := m2_in zss
 split
 · have := pk_mem [mC, srcM2 zss] ((atT zss 2).length : Int) (by simp)
   simp only [List.mem_cons, List.not_mem_nil, or_false] at this
   rcases this with h | h
   · rw [h]; exact .inr (.inr (.inr rfl))
   · rw [h]; rcases h2 with h2 | h2 | h2 <;> simp [h2]
 · rcases h2 with h2 | h2 | h2 <;> simp [h2]
structure Ps (T : List Pc) (n : Nat) (X : List Pc) : Prop where
 mem : ∀ x ∈ X, x ∈ T
 len : X.length ≤ n
theorem in_pc (zs : List Int) (mo : Nat) : ∃ X, Ps tI mo X ∧ (inT false mo zs).data.toList = catS [] (fsts X) := by
 obtain ⟨X, h1, h2, h3⟩ := jnl_pc bytesI allI_ne (zs.take mo)
 exact ⟨X, ⟨h1, by rw [h2, List.length_take]; omega⟩, by unfold inT; rw [if_neg (by simp)]; exact h3⟩
theorem ins_pc (zs : List Int) (mo : Nat) : ∃ X, Ps (tI ++ tS) mo X ∧ (inT true mo zs).data.toList = catS [] (fsts X) := by
 obtain ⟨X, h1, h2, h3⟩ := jnl_pc bytesIS allIS_ne (zs.take mo)
 exact ⟨X, ⟨h1, by rw [h2, List.length_take]; omega⟩, by unfold inT; rw [if_pos rfl]; exact h3⟩
theorem out_pc (zs : List Int) : ∃ X, Ps tO 4 X ∧ (outT zs).data.toList = catS [] (fsts X) := by
 obtain ⟨X, h1, h2, h3⟩ := jnl_pc bytesO allO_ne (zs.take 4)
 exact ⟨X, ⟨h1, by rw [h2, List.length_take]; omega⟩, by unfold outT; exact h3⟩
theorem s1_is (zss : List (List Int)) : ∃ X, Ps tI 4 X ∧ (srcS1 zss).data.toList = catS [] (secA X) := by
 obtain ⟨X, h1, h2⟩ := in_pc (atT zss 0) 4
 refine ⟨X, h1, ?_⟩
 unfold srcS1 secA
 rw [ba_app, ba_app, h2, bA1, bA2, catS_sec, List.append_assoc]
/-! ### The text that takes another one's place -/
def preB : List UInt8 := gB1.take (gB1.length - 11)
theorem preB_is : gB1 = preB ++ rL := rfl
theorem preR_is : gB1r = preB ++ rB.data.toList := rfl
theorem rA_is : rA.data.toList = rL := rfl
theorem noA1 : noB gA1 = true := by decide +kernel
theorem noA2 : noB gA2 = true := by decide +kernel
theorem noI : tI.map (fun x => noB x.1.g) = tI.map fun _ => true := by decide +kernel
theorem noI_is (x : Pc) (h : x ∈ tI) : noB x.1.g = true := List.map_inj_left.1 noI x h
theorem noPre : ∀ i, i < preB.length → ((preB ++ rL).drop i).take 11 ≠ rL := by decide +kernel
theorem preZ (Z : List UInt8) (i : Nat) (hi : i < preB.length) : ((preB ++ (rL ++ Z)).drop i).take 11 ≠ rL := by
 have h := noPre i hi
 have hl : (preB ++ rL).length = preB.length + 11 := by rw [List.length_append]; rfl
 rw [← List.append_assoc, List.drop_append_of_le_length (by omega), List.take_append_of_le_length (by rw [List.length_drop]; omega)]
 exact h
theorem catA_no (X : List Pc) (hX : ∀ x ∈ X, x ∈ tI) (Z : List UInt8) (j : Nat) (hj : j < (catS [] (secA X)).length) : ((catS [] (secA X) ++ Z).drop j).take 11 ≠ rL := by
 have e : catS [] (secA X) = ((secA X).map (·.g)).flatten := by rw [catS_nil]; rfl
 rw [e] at hj ⊢
 refine noB_cat _ Z (fun g hg => ?_) j hj
 obtain ⟨s, hs, rfl⟩ := List.mem_map.1 hg
 unfold secA at hs
 rcases List.mem_cons.1 hs with rfl | hs
 · exact noA1
 · rcases List.mem_append.1 hs with hs | hs
   · obtain ⟨x, hx, rfl⟩ := List.mem_map.1 hs
     exact noI_is x (hX x hx)
   · rw [List.mem_singleton] at hs; subst hs; exact noA2
theorem rep_is (X : List Pc) (hX : ∀ x ∈ X, x ∈ tI) (s : ByteArray) (V : List UInt8) (hs : s.data.toList = catS [] (secA X) ++ (gB1 ++ V)) : (repT s rA rB).data.toList = catS [] (secA X) ++ (gB1r ++ V) := by
 have hs' : s.data.toList = (catS [] (secA X) ++ preB) ++ (rA.data.toList ++ V) := by rw [hs, preB_is, rA_is]; simp
 have hsz : s.size = s.data.toList.length := by simp
 have hno : ∀ j, j < (catS [] (secA X) ++ preB).length → ((s.data.toList).drop j).take 11 ≠ rL := by
   intro j hj
   rw [hs', rA_is, List.append_assoc]
   rw [List.length_append] at hj
   by_cases h : j < (catS [] (secA X)).length
   · exact catA_no X hX _ j h
   · have := preZ V (j - (catS [] (secA X)).length) (by omega)
     rw [List.drop_append, List.drop_of_length_le (by omega), List.nil_append]
     exact this
 have hf : (catS [] (secA X) ++ preB).length < (s.size + 2) + 0 := by
   have := congrArg List.length hs'
   rw [List.length_append] at this
   omega
 have := repF_at s rA rB (catS [] (secA X) ++ preB) V hs' rA_is hno (s.size + 2) 0 (Nat.zero_le _) hf
 unfold repT
 rw [this, preR_is]; simp
theorem src_parts (zss : List (List Int)) : ∃ (X0 X1 X2 X3 : List Pc) (s : Sg) (L : List Sg), Ps tI 4 X0 ∧ Ps (tI ++ tS) 4 X1 ∧ Ps tI 2 X2 ∧ Ps tO 4 X3 ∧ s ∈ sgT ∧ (srcT zss).data.toList = catS [] L ++ [10] ∧
   (L = secA X0 ++ secT s X3 ∨ L = secA X0 ++ (secB X1 ++ secT s X3) ∨ L = secA X0 ++ (secR X1 ++ (secC X2 ++ secT s X3))) := by
 obtain ⟨X0, p0, e0⟩ := s1_is zss
 obtain ⟨X1, p1, e1⟩ := ins_pc (atT zss 1) 4
 obtain ⟨X2, p2, e2⟩ := in_pc (atT zss 2) 2
 obtain ⟨X3, p3, e3⟩ := out_pc (atT zss 3)
 obtain ⟨s, hs, es⟩ := made_sg (srcM3 zss) (m3_in zss)
 have eT : ∀ P : List UInt8, (srcS3 zss).data.toList = P → (srcT zss).data.toList = P ++ catS [] (secT s X3) ++ [10] := by
   intro P hP
   unfold srcT secT
   simp only [ba_app]
   rw [hP, e3, bT4, catS_sec, es]
   simp
 by_cases h1 : 1 < zss.length
 · by_cases h2 : 2 < zss.length
   · refine ⟨X0, X1, X2, X3, s, _, p0, p1, p2, p3, hs, ?_, .inr (.inr rfl)⟩
     have e : (srcS3 zss).data.toList = catS [] (secA X0) ++ (gB1r ++ (catS [] (fsts X1) ++ (gB2 ++ catS [] (secC X2)))) := by
       unfold srcS3
       rw [if_pos h2]
       refine rep_is X0 p0.mem _ _ ?_
       unfold srcS2
       rw [if_pos h1]
       unfold secC
       simp only [ba_app]
       rw [e0, e1, e2, bB1, bB2, bC1, bC2, catS_sec]
       simp
     rw [eT _ e]
     unfold secR
     rw [catS_app, catS_app, catS_app, catS_sec]
     simp
   · refine ⟨X0, X1, X2, X3, s, _, p0, p1, p2, p3, hs, ?_, .inr (.inl rfl)⟩
     have e : (srcS3 zss).data.toList = catS [] (secA X0) ++ catS [] (secB X1) := by
       unfold srcS3
       rw [if_neg h2]
       unfold srcS2
       rw [if_pos h1]
       unfold secB
       simp only [ba_app]
       rw [e0, e1, bB1, bB2, catS_sec]
       simp
     rw [eT _ e, catS_app, catS_app]
     simp
 · refine ⟨X0, X1, X2, X3, s, _, p0, p1, p2, p3, hs, ?_, .inl rfl⟩
   have e : (srcS3 zss).data.toList = catS [] (secA X0) := by
     unfold srcS3
     rw [if_neg (by omega)]
     unfold srcS2
     rw [if_neg h1, e0]
   rw [eT _ e, catS_app]
/-! ### They follow one another -/
theorem ok_of_mem {T : List Pc} {n : Nat} {X : List Pc} (h : Ps T n X) (hT : ∀ x ∈ T, PcOk x) : ∀ x ∈ X, PcOk x := fun x hx => hT x (h.mem x hx)
theorem path_sec {a c d : UInt8} {g h : List UInt8} {w u : List Pr} {X : List Pc} (k1 : SgOk ⟨g, 32, w⟩) (k2 : SgOk ⟨h, c, u⟩) (hg : g.head? = some a) (hh : h.head? = some 32) (hX : ∀ x ∈ X, PcOk x) : Path a (⟨g, 32, w⟩ :: (fsts X ++ [⟨h, c, u⟩])) c :=
 ⟨hg, k1, Path.app (path_pc hX) ⟨hh, k2, rfl⟩⟩
theorem path_A {X : List Pc} (h : Ps tI 4 X) : Path 99 (secA X) 99 := path_sec (d := 0) okA1 okA2 rfl rfl (ok_of_mem h ok_tI)
theorem path_B {X : List Pc} (h : Ps (tI ++ tS) 4 X) : Path 99 (secB X) 99 := path_sec (d := 0) okB1 okB2 rfl rfl (ok_of_mem h ok_tIS)
theorem path_R {X : List Pc} (h : Ps (tI ++ tS) 4 X) : Path 99 (secR X) 99 := path_sec (d := 0) okB1r okB2 rfl rfl (ok_of_mem h ok_tIS)
theorem path_C {X : List Pc} (h : Ps tI 2 X) : Path 99 (secC X) 99 := path_sec (d := 0) okC1 okC2 rfl rfl (ok_of_mem h ok_tI)
theorem path_T {s : Sg} {X : List Pc} (hs : s ∈ sgT) (h : Ps tO 4 X) : Path 99 (secT s X) 10 := by
 unfold sgT at hs
 simp only [List.mem_cons, List.not_mem_nil, or_false] at hs
 rcases hs with rfl | rfl | rfl | rfl
 · exact path_sec (d := 0) okTA okT4 rfl rfl (ok_of_mem h ok_tO)
 · exact path_sec (d := 0) okT2 okT4 rfl rfl (ok_of_mem h ok_tO)
 · exact path_sec (d := 0) okT0 okT4 rfl rfl (ok_of_mem h ok_tO)
 · exact path_sec (d := 0) okTC okT4 rfl rfl (ok_of_mem h ok_tO)
end
set_option maxRecDepth 100000
section
open Go.RowKit
def hdA : List Pr := [.fx ⟨#[99, 108, 97, 115, 115]⟩, .cl ⟨#[65]⟩, .fx ⟨#[123]⟩]
theorem hdrA : Hdr ⟨#[65]⟩ E0 hdA := ⟨fun X => by kernel_rfl, fun X => by kernel_rfl, fun X => by kernel_rfl, fun X => by kernel_rfl⟩
def hdB : List Pr := [.fx ⟨#[99, 108, 97, 115, 115]⟩, .cl ⟨#[66]⟩, .fx ⟨#[101, 120, 116, 101, 110, 100, 115]⟩, .cl ⟨#[65]⟩, .fx ⟨#[123]⟩]
theorem hdrB : Hdr ⟨#[66]⟩ ⟨#[65]⟩ hdB := ⟨fun X => by kernel_rfl, fun X => by kernel_rfl, fun X => by kernel_rfl, fun X => by kernel_rfl⟩
def hdC : List Pr := [.fx ⟨#[99, 108, 97, 115, 115]⟩, .cl ⟨#[67]⟩, .fx ⟨#[101, 120, 116, 101, 110, 100, 115]⟩, .cl ⟨#[66]⟩, .fx ⟨#[123]⟩]
theorem hdrC : Hdr ⟨#[67]⟩ ⟨#[66]⟩ hdC := ⟨fun X => by kernel_rfl, fun X => by kernel_rfl, fun X => by kernel_rfl, fun X => by kernel_rfl⟩
def hdT : List Pr := [.fx ⟨#[99, 108, 97, 115, 115]⟩, .cl ⟨#[84]⟩, .fx ⟨#[123]⟩]
theorem hdrT : Hdr ⟨#[84]⟩ E0 hdT := ⟨fun X => by kernel_rfl, fun X => by kernel_rfl, fun X => by kernel_rfl, fun X => by kernel_rfl⟩
def mlA (L : List It) : List It := [ma0, ma1, ma2, ma3, ma4, mfA ((iFo, nFo) :: (L ++ [(iFrx, nFrx)])), ma5, ma6, ma7, ma8]
def mlB (L : List It) : List It := [mb0, mb1, mb2, mb3, mb4, mfB ((iFt, nFt) :: (L ++ [(iFry, nFry)])), mb5]
def mlR (L : List It) : List It := [mb0, mb1, mb2, mb3, mb4, mfB ((iFt, nFt) :: (iFc, nFc) :: (L ++ [(iFry, nFry)])), mb5]
def mlC (L : List It) : List It := [mc0, mc1, mgC ((iFg, nFg) :: (iFa, nFa) :: (iFo, nFo) :: L)]
def mlT (z m : It) (L : List It) : List It := [z, mt1, mtT (m :: L)]
theorem eA1 : wA1 = hdA ++ (ma0.1 ++ (ma1.1 ++ (ma2.1 ++ (ma3.1 ++ (ma4.1 ++ (hfA ++ pBra :: iFo)))))) := rfl
theorem eA2 : wA2 = iFrx ++ pKet :: (ma5.1 ++ (ma6.1 ++ (ma7.1 ++ (ma8.1 ++ [pKet])))) := rfl
theorem eB1 : wB1 = hdB ++ (mb0.1 ++ (mb1.1 ++ (mb2.1 ++ (mb3.1 ++ (mb4.1 ++ (hfB ++ pBra :: iFt)))))) := rfl
theorem eB1r : wB1r = hdB ++ (mb0.1 ++ (mb1.1 ++ (mb2.1 ++ (mb3.1 ++ (mb4.1 ++ (hfB ++ pBra :: (iFt ++ iFc))))))) := rfl
theorem eB2 : wB2 = iFry ++ pKet :: (mb5.1 ++ [pKet]) := rfl
theorem eC1 : wC1 = hdC ++ (mc0.1 ++ (mc1.1 ++ (hgC ++ pBra :: (iFg ++ (iFa ++ iFo))))) := rfl
theorem eC2 : wC2 = [pKet, pKet] := rfl
theorem eTA : wTA = hdT ++ (mzA.1 ++ (mt1.1 ++ (htT ++ pBra :: iFmA))) := rfl
theorem eT2 : wT2 = hdT ++ (mz2.1 ++ (mt1.1 ++ (htT ++ pBra :: iFm2))) := rfl
theorem eT0 : wT0 = hdT ++ (mz0.1 ++ (mt1.1 ++ (htT ++ pBra :: iFm0))) := rfl
theorem eTC : wTC = hdT ++ (mzC.1 ++ (mt1.1 ++ (htT ++ pBra :: iFmC))) := rfl
theorem eT4 : wT4 = [pKet, pKet] := rfl
theorem wof_sec {s t : Sg} {X : List Pc} (h : ∀ x ∈ X, PcOk x) : wof (s :: (fsts X ++ [t])) = s.w ++ (wcat (X.map (·.2)) ++ t.w) := by
 rw [← wof_pc h]; simp [wof, fsts]
/-! ### Classes -/
structure CG (i : It) : Prop where
 ne : ∀ R, (S1 0 (i.1 ++ R)).ws.isEmpty = false
 pos : 0 < i.1.length
 red : ∀ R, clsC (S1 0 (i.1 ++ R)) = (i.2, S1 0 R)
def clI (own sup : ByteArray) (hd : List Pr) (L : List It) : It := (hd ++ (wcat L ++ [pKet]), clN own sup L)
theorem cg_of {own sup : ByteArray} {hd : List Pr} (hh : Hdr own sup hd) (L : List It) (h : ∀ i ∈ L, Mb own i ∧ i.1 ≠ []) : CG (clI own sup hd L) := by
 have e : ∀ R, (clI own sup hd L).1 ++ R = hd ++ (wcat L ++ pKet :: R) := fun R => by simp [clI]
 refine ⟨fun R => by rw [e]; exact hh.ne _, ?_, fun R => ?_⟩
 · simp [clI]; omega
 · rw [e, cls_items hh L R (fun i hi => (h i hi).1) fun i hi => (h i hi).2]; rfl
theorem empty_S1 : (S1 0 []).ws.isEmpty = true := rfl
theorem loopG_items : ∀ (C : List It) (N : Nat) (l : List Nd), (∀ i ∈ C, CG i) → C.length + 1 ≤ N → loopG N l (S1 0 (wcat C)) = (l ++ ncat C, S1 0 [])
 | [], N, l, _, hN => by
   obtain ⟨k, rfl⟩ : ∃ k, N = k + 1 := ⟨N - 1, by omega⟩
   show loopG (k + 1) l (S1 0 []) = _
   rw [loopG, if_pos empty_S1]
   simp [ncat]
 | i :: C, N, l, h, hN => by
   obtain ⟨k, rfl⟩ : ∃ k, N = k + 1 := ⟨N - 1, by omega⟩
   have hg := h i (by simp)
   have e : wcat (i :: C) = i.1 ++ wcat C := by simp [wcat]
   rw [e, loopG, hg.ne, if_neg (by simp), hg.red]
   rw [loopG_items C k _ (fun j hj => h j (by simp [hj])) (by simp at hN; omega)]
   simp [ncat]
theorem cg_len : ∀ (C : List It), (∀ i ∈ C, CG i) → C.length ≤ (wcat C).length
 | [], _ => Nat.zero_le _
 | i :: C, h => by
   have ih := cg_len C fun j hj => h j (by simp [hj])
   have := (h i (by simp)).pos
   simp only [wcat, List.flatMap_cons, List.length_append, List.length_cons] at ih ⊢
   omega
theorem prg_items (C : List It) (h : ∀ i ∈ C, CG i) : prg (S1 0 (wcat C)) = (ncat C, S1 0 []) := by
 have := cg_len C h
 unfold prg
 rw [S1_len, loopG_items C _ [] h (by omega)]
 rfl
/-! ### Their members are read -/
theorem gd_ok {X : List Pc} (h : ∀ x ∈ X, PcOk x) : ∀ i ∈ X.map (·.2), Gd1 i := fun i hi => by
 obtain ⟨x, hx, rfl⟩ := List.mem_map.1 hi
 exact (h x hx).2.2.2.2
theorem gd_cons {i : It} {L : List It} (hi : Gd1 i) (h : ∀ j ∈ L, Gd1 j) : ∀ j ∈ i :: L, Gd1 j := fun j hj => by
 rcases List.mem_cons.1 hj with rfl | hj
 · exact hi
 · exact h j hj
theorem gd_last {i : It} {L : List It} (hi : Gd1 i) (h : ∀ j ∈ L, Gd1 j) : ∀ j ∈ L ++ [i], Gd1 j := fun j hj => by
 rcases List.mem_append.1 hj with hj | hj
 · exact h j hj
 · rw [List.mem_singleton] at hj; subst hj; exact hi
theorem ne_of {i : It} {x : Pr} {t : List Pr} (h : i.1 = x :: t) : i.1 ≠ [] := by rw [h]; simp
theorem cgA {L : List It} (h : ∀ i ∈ L, Gd1 i) : CG (clI ⟨#[65]⟩ E0 hdA (mlA L)) := cg_of hdrA _ fun i hi => by
 unfold mlA at hi
 simp only [List.mem_cons, List.not_mem_nil, or_false] at hi
 rcases hi with rfl | rfl | rfl | rfl | rfl | rfl | rfl | rfl | rfl | rfl
 · exact ⟨mba0, ne_of rfl⟩
 · exact ⟨mba1, ne_of rfl⟩
 · exact ⟨mba2, ne_of rfl⟩
 · exact ⟨mba3, ne_of rfl⟩
 · exact ⟨mba4, ne_of rfl⟩
 · exact ⟨mbfA _ (gd_cons gdFo (gd_last gdFrx h)), ne_of rfl⟩
 · exact ⟨mba5, ne_of rfl⟩
 · exact ⟨mba6, ne_of rfl⟩
 · exact ⟨mba7, ne_of rfl⟩
 · exact ⟨mba8, ne_of rfl⟩
theorem cgB {L : List It} (h : ∀ i ∈ L, Gd1 i) : CG (clI ⟨#[66]⟩ ⟨#[65]⟩ hdB (mlB L)) := cg_of hdrB _ fun i hi => by
 unfold mlB at hi
 simp only [List.mem_cons, List.not_mem_nil, or_false] at hi
 rcases hi with rfl | rfl | rfl | rfl | rfl | rfl | rfl
 · exact ⟨mbb0, ne_of rfl⟩
 · exact ⟨mbb1, ne_of rfl⟩
 · exact ⟨mbb2, ne_of rfl⟩
 · exact ⟨mbb3, ne_of rfl⟩
 · exact ⟨mbb4, ne_of rfl⟩
 · exact ⟨mbfB _ (gd_cons gdFt (gd_last gdFry h)), ne_of rfl⟩
 · exact ⟨mbb5, ne_of rfl⟩
theorem cgR {L : List It} (h : ∀ i ∈ L, Gd1 i) : CG (clI ⟨#[66]⟩ ⟨#[65]⟩ hdB (mlR L)) := cg_of hdrB _ fun i hi => by
 unfold mlR at hi
 simp only [List.mem_cons, List.not_mem_nil, or_false] at hi
 rcases hi with rfl | rfl | rfl | rfl | rfl | rfl | rfl
 · exact ⟨mbb0, ne_of rfl⟩
 · exact ⟨mbb1, ne_of rfl⟩
 · exact ⟨mbb2, ne_of rfl⟩
 · exact ⟨mbb3, ne_of rfl⟩
 · exact ⟨mbb4, ne_of rfl⟩
 · exact ⟨mbfB _ (gd_cons gdFt (gd_cons gdFc (gd_last gdFry h))), ne_of rfl⟩
 · exact ⟨mbb5, ne_of rfl⟩
theorem cgC {L : List It} (h : ∀ i ∈ L, Gd1 i) : CG (clI ⟨#[67]⟩ ⟨#[66]⟩ hdC (mlC L)) := cg_of hdrC _ fun i hi => by
 unfold mlC at hi
 simp only [List.mem_cons, List.not_mem_nil, or_false] at hi
 rcases hi with rfl | rfl | rfl
 · exact ⟨mbc0, ne_of rfl⟩
 · exact ⟨mbc1, ne_of rfl⟩
 · exact ⟨mbgC _ (gd_cons gdFg (gd_cons gdFa (gd_cons gdFo h))), ne_of rfl⟩
theorem cgT {z m : It} (hz : Mb ⟨#[84]⟩ z ∧ z.1 ≠ []) (hm : Gd1 m) {L : List It} (h : ∀ i ∈ L, Gd1 i) : CG (clI ⟨#[84]⟩ E0 hdT (mlT z m L)) := cg_of hdrT _ fun i hi => by
 unfold mlT at hi
 simp only [List.mem_cons, List.not_mem_nil, or_false] at hi
 rcases hi with rfl | rfl | rfl
 · exact hz
 · exact ⟨mbt1, ne_of rfl⟩
 · exact ⟨mbtT _ (gd_cons hm h), ne_of rfl⟩
/-! ### The parts' words -/
theorem wA_is {X : List Pc} (h : ∀ x ∈ X, PcOk x) : wof (secA X) = (clI ⟨#[65]⟩ E0 hdA (mlA (X.map (·.2)))).1 := by
 unfold secA
 rw [wof_sec h, eA1, eA2]
 simp [clI, mlA, mfA, wcat]
theorem wB_is {X : List Pc} (h : ∀ x ∈ X, PcOk x) : wof (secB X) = (clI ⟨#[66]⟩ ⟨#[65]⟩ hdB (mlB (X.map (·.2)))).1 := by
 unfold secB
 rw [wof_sec h, eB1, eB2]
 simp [clI, mlB, mfB, wcat]
theorem wR_is {X : List Pc} (h : ∀ x ∈ X, PcOk x) : wof (secR X) = (clI ⟨#[66]⟩ ⟨#[65]⟩ hdB (mlR (X.map (·.2)))).1 := by
 unfold secR
 rw [wof_sec h, eB1r, eB2]
 simp [clI, mlR, mfB, wcat]
theorem wC_is {X : List Pc} (h : ∀ x ∈ X, PcOk x) : wof (secC X) = (clI ⟨#[67]⟩ ⟨#[66]⟩ hdC (mlC (X.map (·.2)))).1 := by
 unfold secC
 rw [wof_sec h, eC1, eC2]
 simp [clI, mlC, mgC, wcat]
structure TZ (s : Sg) (z m : It) : Prop where
 w : s.w = hdT ++ (z.1 ++ (mt1.1 ++ (htT ++ pBra :: m.1)))
 mb : Mb ⟨#[84]⟩ z ∧ z.1 ≠ []
 gd : Gd1 m
theorem tz_is {s : Sg} (hs : s ∈ sgT) : ∃ z m, TZ s z m ∧ ((z = mzA ∧ m = (iFmA, nFmA)) ∨ (z = mz2 ∧ m = (iFm2, nFm2)) ∨ (z = mz0 ∧ m = (iFm0, nFm0)) ∨ (z = mzC ∧ m = (iFmC, nFmC))) := by
 unfold sgT at hs
 simp only [List.mem_cons, List.not_mem_nil, or_false] at hs
 rcases hs with rfl | rfl | rfl | rfl
 · exact ⟨mzA, (iFmA, nFmA), ⟨eTA, ⟨mbzA, ne_of rfl⟩, gdFmA⟩, .inl ⟨rfl, rfl⟩⟩
 · exact ⟨mz2, (iFm2, nFm2), ⟨eT2, ⟨mbz2, ne_of rfl⟩, gdFm2⟩, .inr (.inl ⟨rfl, rfl⟩)⟩
 · exact ⟨mz0, (iFm0, nFm0), ⟨eT0, ⟨mbz0, ne_of rfl⟩, gdFm0⟩, .inr (.inr (.inl ⟨rfl, rfl⟩))⟩
 · exact ⟨mzC, (iFmC, nFmC), ⟨eTC, ⟨mbzC, ne_of rfl⟩, gdFmC⟩, .inr (.inr (.inr ⟨rfl, rfl⟩))⟩
theorem wT_is {s : Sg} {z m : It} (hz : TZ s z m) {X : List Pc} (h : ∀ x ∈ X, PcOk x) : wof (secT s X) = (clI ⟨#[84]⟩ E0 hdT (mlT z m (X.map (·.2)))).1 := by
 unfold secT
 rw [wof_sec h, hz.w, eT4]
 simp [clI, mlT, mtT, wcat]
end
set_option maxRecDepth 100000
section
open Go.RowKit
/-! ### By a number of steps -/
def okF : Nat → Nd → Nat → Bool
 | 0, _, _ => false
 | n + 1, x, d => decide (d ≤ 40) && (fitsB x && x.kids.all fun y => okF n y (d + stepN x y))
theorem okF_is : ∀ (n : Nat) (x : Nd) (d : Nat), okF n x d = true → okT x d = true
 | 0, _, _, h => by cases h
 | n + 1, x, d, h => by
   rw [okF, Bool.and_eq_true, Bool.and_eq_true, List.all_eq_true] at h
   rw [okT_eq, h.1, h.2.1, Bool.true_and, Bool.true_and, List.all_eq_true]
   exact fun y hy => okF_is n y _ (h.2.2 y hy)
structure Nk (x : Nd) : Prop where
 ok : okT x 1 = true
 ns : (x.kind == 11) = false
 sz : x.size ≤ 40
def nkB (x : Nd) : Bool := okF 12 x 1 && (!(x.kind == 11) && decide (x.size ≤ 40))
theorem nk_of {x : Nd} (h : nkB x = true) : Nk x := by
 unfold nkB at h
 rw [Bool.and_eq_true, Bool.and_eq_true, Bool.not_eq_true', decide_eq_true_eq] at h
 exact ⟨okF_is _ _ _ h.1, h.2.1, h.2.2⟩
theorem nkI : tI.map (fun x => nkB x.2.2) = tI.map fun _ => true := by decide +kernel
theorem nkS : tS.map (fun x => nkB x.2.2) = tS.map fun _ => true := by decide +kernel
theorem nkO : tO.map (fun x => nkB x.2.2) = tO.map fun _ => true := by decide +kernel
def Nks (L : List It) (n : Nat) : Prop := L.length ≤ n ∧ ∀ i ∈ L, Nk i.2
theorem nks_ps {T : List Pc} {n : Nat} {X : List Pc} (hT : T.map (fun x => nkB x.2.2) = T.map fun _ => true) (h : Ps T n X) : Nks (X.map (·.2)) n :=
 ⟨by rw [List.length_map]; exact h.len, fun i hi => by
   obtain ⟨x, hx, rfl⟩ := List.mem_map.1 hi
   exact nk_of (List.map_inj_left.1 hT x (h.mem x hx))⟩
theorem nkIS : (tI ++ tS).map (fun x => nkB x.2.2) = (tI ++ tS).map fun _ => true := by rw [List.map_append, List.map_append, nkI, nkS]
theorem nks_cons {i : It} {L : List It} {n : Nat} (hi : nkB i.2 = true) (h : Nks L n) : Nks (i :: L) (n + 1) :=
 ⟨by have := h.1; simp; omega, fun j hj => by
   rcases List.mem_cons.1 hj with rfl | hj
   · exact nk_of hi
   · exact h.2 j hj⟩
theorem nks_last {i : It} {L : List It} {n : Nat} (hi : nkB i.2 = true) (h : Nks L n) : Nks (L ++ [i]) (n + 1) :=
 ⟨by have := h.1; simp; omega, fun j hj => by
   rcases List.mem_append.1 hj with hj | hj
   · exact h.2 j hj
   · rw [List.mem_singleton] at hj; subst hj; exact nk_of hi⟩
theorem nks_sup {L : List It} {n : Nat} (h : Nks L n) : hasSup (ncat L) = false := by
 unfold hasSup ncat
 rw [List.any_eq_false]
 intro x hx
 obtain ⟨i, hi, rfl⟩ := List.mem_map.1 hx
 rw [(h.2 i hi).ns]; simp
theorem nks_size : ∀ {L : List It} {n : Nat}, Nks L n → sizeL (ncat L) ≤ 40 * n
 | [], n, _ => by simp [ncat, sizeL]
 | i :: L, n, h => by
   obtain ⟨k, rfl⟩ : ∃ k, n = k + 1 := ⟨n - 1, by have := h.1; simp at this; omega⟩
   have ih := nks_size (L := L) (n := k) ⟨by have := h.1; simp at this; omega, fun j hj => h.2 j (by simp [hj])⟩
   have := (h.2 i (by simp)).sz
   simp only [ncat, List.map_cons, sizeL] at ih ⊢
   omega
/-! ### Members -/
structure Nm (i : It) (n : Nat) : Prop where
 ok : okT i.2 0 = true
 sz : i.2.size ≤ n
def nmB (x : Nd) : Bool := okF 12 x 0 && decide (x.size ≤ 40)
theorem nm_of {i : It} (h : nmB i.2 = true) : Nm i 40 := by
 unfold nmB at h
 rw [Bool.and_eq_true, decide_eq_true_eq] at h
 exact ⟨okF_is _ _ _ h.1, h.2⟩
theorem fixedM : [ma0, ma1, ma2, ma3, ma4, ma5, ma6, ma7, ma8, mb0, mb1, mb2, mb3, mb4, mb5, mc0, mc1, mt1, mzA, mz2, mz0, mzC].map (fun i => nmB i.2) = [ma0, ma1, ma2, ma3, ma4, ma5, ma6, ma7, ma8, mb0, mb1, mb2, mb3, mb4, mb5, mc0, mc1, mt1, mzA, mz2, mz0, mzC].map fun _ => true := by decide +kernel
theorem fixed_is (i : It) (h : i ∈ [ma0, ma1, ma2, ma3, ma4, ma5, ma6, ma7, ma8, mb0, mb1, mb2, mb3, mb4, mb5, mc0, mc1, mt1, mzA, mz2, mz0, mzC]) : Nm i 40 := nm_of (List.map_inj_left.1 fixedM i h)
theorem nm_sym (st : Bool) (ty nm : ByteArray) (ps : List Pm) (w : List Pr) {L : List It} {n : Nat} (hf : ∀ l, hasSup l = false → fitM st false ty nm ps l = true) (h : Nks L n) : Nm (w, mkM st false ty nm ps (ncat L)) (40 * n + 1) := by
 have hs := nks_size h
 refine ⟨?_, ?_⟩
 · show okT (mkM st false ty nm ps (ncat L)) 0 = true
   rw [okT_eq]
   rw [show fitsB (mkM st false ty nm ps (ncat L)) = true from hf _ (nks_sup h)]
   rw [show (mkM st false ty nm ps (ncat L)).kids = ncat L from rfl, Bool.true_and, decide_eq_true (by omega), Bool.true_and, List.all_eq_true]
   intro x hx
   obtain ⟨i, hi, rfl⟩ := List.mem_map.1 hx
   exact (h.2 i hi).ok
 · show (mkM st false ty nm ps (ncat L)).size ≤ _
   rw [size_kids, show (mkM st false ty nm ps (ncat L)).kids = ncat L from rfl]; omega
theorem fit_f (l : List Nd) (h : hasSup l = false) : fitM false false tInt ⟨#[102]⟩ [(tInt, ⟨#[97]⟩)] l = true := by unfold fitM; rw [h, if_neg (by simp)]; decide +kernel
theorem fit_g (l : List Nd) (h : hasSup l = false) : fitM false false kVoid ⟨#[103, 50]⟩ [] l = true := by unfold fitM; rw [h, if_neg (by simp)]; decide +kernel
theorem fit_t (l : List Nd) (h : hasSup l = false) : fitM true false kVoid ⟨#[116, 50]⟩ [] l = true := by unfold fitM; rw [h, if_neg (by simp)]; decide +kernel
/-! ### Classes -/
theorem size_filter (p : Nd → Bool) : ∀ l : List Nd, sizeL (l.filter p) + sizeL (l.filter fun x => !p x) = sizeL l
 | [] => rfl
 | x :: l => by
   have ih := size_filter p l
   cases h : p x <;> simp [List.filter_cons, h, sizeL] <;> omega
structure Nc (i : It) (n : Nat) : Prop where
 ok : okT i.2 0 = true
 sz : i.2.size ≤ n
theorem nc_of {own sup : ByteArray} {hd : List Pr} {L : List It} {n : Nat} (h1 : classOk own = true) (h2 : (emp sup || classOk sup) = true) (h3 : L.length ≤ 30) (h4 : ∀ i ∈ L, okT i.2 0 = true) (h5 : sizeL (ncat L) ≤ n) : Nc (clI own sup hd L) (n + 1) := by
 have hk : (clN own sup L).kids = (ncat L).filter isF ++ (ncat L).filter fun x => !isF x := rfl
 have hl : (ncat L).length ≤ 30 := by unfold ncat; rw [List.length_map]; exact h3
 refine ⟨?_, ?_⟩
 · show okT (clN own sup L) 0 = true
   rw [okT_eq, hk]
   have hf : fitsB (clN own sup L) = true := by
     show (classOk own && ((emp sup || classOk sup) && (decide (((ncat L).filter isF).length ≤ 30) && decide (((ncat L).filter fun x => !isF x).length ≤ 30)))) = true
     rw [h1, h2, decide_eq_true (Nat.le_trans (List.length_filter_le _ _) hl), decide_eq_true (Nat.le_trans (List.length_filter_le _ _) hl)]; rfl
   rw [hf, Bool.true_and, decide_eq_true (by omega), Bool.true_and, List.all_eq_true]
   intro x hx
   have : x ∈ ncat L := by
     rcases List.mem_append.1 hx with h | h
     · exact (List.mem_filter.1 h).1
     · exact (List.mem_filter.1 h).1
   obtain ⟨i, hi, rfl⟩ := List.mem_map.1 this
   exact h4 i hi
 · show (clN own sup L).size ≤ _
   rw [size_kids, hk, sizeL_append, size_filter]; omega
theorem size_cons (i : It) (L : List It) : sizeL (ncat (i :: L)) = i.2.size + sizeL (ncat L) := rfl
theorem size_nil : sizeL (ncat []) = 0 := rfl
theorem ncA {L : List It} (h : Nks L 4) : Nc (clI ⟨#[65]⟩ E0 hdA (mlA L)) 602 := by
 have k := nm_sym false tInt ⟨#[102]⟩ [(tInt, ⟨#[97]⟩)] (hfA ++ pBra :: (wcat ((iFo, nFo) :: (L ++ [(iFrx, nFrx)])) ++ [pKet])) fit_f (nks_cons (i := (iFo, nFo)) (by decide +kernel) (nks_last (i := (iFrx, nFrx)) (by decide +kernel) h))
 refine nc_of (by decide +kernel) (by decide +kernel) (by simp [mlA]) ?_ ?_
 · intro i hi
   unfold mlA at hi
   simp only [List.mem_cons, List.not_mem_nil, or_false] at hi
   rcases hi with rfl | rfl | rfl | rfl | rfl | rfl | rfl | rfl | rfl | rfl
   all_goals first | exact k.ok | exact (fixed_is _ (by simp)).ok
 · have s0 := (fixed_is ma0 (by simp)).sz
   have s1 := (fixed_is ma1 (by simp)).sz
   have s2 := (fixed_is ma2 (by simp)).sz
   have s3 := (fixed_is ma3 (by simp)).sz
   have s4 := (fixed_is ma4 (by simp)).sz
   have s5 := (fixed_is ma5 (by simp)).sz
   have s6 := (fixed_is ma6 (by simp)).sz
   have s7 := (fixed_is ma7 (by simp)).sz
   have s8 := (fixed_is ma8 (by simp)).sz
   have sk : (mfA ((iFo, nFo) :: (L ++ [(iFrx, nFrx)]))).2.size ≤ _ := k.sz
   unfold mlA
   simp only [size_cons, size_nil]
   omega
theorem ncB {L : List It} (h : Nks L 4) : Nc (clI ⟨#[66]⟩ ⟨#[65]⟩ hdB (mlB L)) 482 := by
 have k := nm_sym false tInt ⟨#[102]⟩ [(tInt, ⟨#[97]⟩)] (hfB ++ pBra :: (wcat ((iFt, nFt) :: (L ++ [(iFry, nFry)])) ++ [pKet])) fit_f (nks_cons (i := (iFt, nFt)) (by decide +kernel) (nks_last (i := (iFry, nFry)) (by decide +kernel) h))
 refine nc_of (by decide +kernel) (by decide +kernel) (by simp [mlB]) ?_ ?_
 · intro i hi
   unfold mlB at hi
   simp only [List.mem_cons, List.not_mem_nil, or_false] at hi
   rcases hi with rfl | rfl | rfl | rfl | rfl | rfl | rfl
   all_goals first | exact k.ok | exact (fixed_is _ (by simp)).ok
 · have s0 := (fixed_is mb0 (by simp)).sz
   have s1 := (fixed_is mb1 (by simp)).sz
   have s2 := (fixed_is mb2 (by simp)).sz
   have s3 := (fixed_is mb3 (by simp)).sz
   have s4 := (fixed_is mb4 (by simp)).sz
   have s5 := (fixed_is mb5 (by simp)).sz
   have sk : (mfB ((iFt, nFt) :: (L ++ [(iFry, nFry)]))).2.size ≤ _ := k.sz
   unfold mlB
   simp only [size_cons, size_nil]
   omega
theorem ncR {L : List It} (h : Nks L 4) : Nc (clI ⟨#[66]⟩ ⟨#[65]⟩ hdB (mlR L)) 522 := by
 have k := nm_sym false tInt ⟨#[102]⟩ [(tInt, ⟨#[97]⟩)] (hfB ++ pBra :: (wcat ((iFt, nFt) :: (iFc, nFc) :: (L ++ [(iFry, nFry)])) ++ [pKet])) fit_f (nks_cons (i := (iFt, nFt)) (by decide +kernel) (nks_cons (i := (iFc, nFc)) (by decide +kernel) (nks_last (i := (iFry, nFry)) (by decide +kernel) h)))
 refine nc_of (by decide +kernel) (by decide +kernel) (by simp [mlR]) ?_ ?_
 · intro i hi
   unfold mlR at hi
   simp only [List.mem_cons, List.not_mem_nil, or_false] at hi
   rcases hi with rfl | rfl | rfl | rfl | rfl | rfl | rfl
   all_goals first | exact k.ok | exact (fixed_is _ (by simp)).ok
 · have s0 := (fixed_is mb0 (by simp)).sz
   have s1 := (fixed_is mb1 (by simp)).sz
   have s2 := (fixed_is mb2 (by simp)).sz
   have s3 := (fixed_is mb3 (by simp)).sz
   have s4 := (fixed_is mb4 (by simp)).sz
   have s5 := (fixed_is mb5 (by simp)).sz
   have sk : (mfB ((iFt, nFt) :: (iFc, nFc) :: (L ++ [(iFry, nFry)]))).2.size ≤ _ := k.sz
   unfold mlR
   simp only [size_cons, size_nil]
   omega
theorem ncC {L : List It} (h : Nks L 2) : Nc (clI ⟨#[67]⟩ ⟨#[66]⟩ hdC (mlC L)) 282 := by
 have k := nm_sym false kVoid ⟨#[103, 50]⟩ [] (hgC ++ pBra :: (wcat ((iFg, nFg) :: (iFa, nFa) :: (iFo, nFo) :: L) ++ [pKet])) fit_g (nks_cons (i := (iFg, nFg)) (by decide +kernel) (nks_cons (i := (iFa, nFa)) (by decide +kernel) (nks_cons (i := (iFo, nFo)) (by decide +kernel) h)))
 refine nc_of (by decide +kernel) (by decide +kernel) (by simp [mlC]) ?_ ?_
 · intro i hi
   unfold mlC at hi
   simp only [List.mem_cons, List.not_mem_nil, or_false] at hi
   rcases hi with rfl | rfl | rfl
   all_goals first | exact k.ok | exact (fixed_is _ (by simp)).ok
 · have s0 := (fixed_is mc0 (by simp)).sz
   have s1 := (fixed_is mc1 (by simp)).sz
   have sk : (mgC ((iFg, nFg) :: (iFa, nFa) :: (iFo, nFo) :: L)).2.size ≤ _ := k.sz
   unfold mlC
   simp only [size_cons, size_nil]
   omega
theorem ncT {z m : It} (hz : (z = mzA ∧ m = (iFmA, nFmA)) ∨ (z = mz2 ∧ m = (iFm2, nFm2)) ∨ (z = mz0 ∧ m = (iFm0, nFm0)) ∨ (z = mzC ∧ m = (iFmC, nFmC))) {L : List It} (h : Nks L 4) : Nc (clI ⟨#[84]⟩ E0 hdT (mlT z m L)) 282 := by
 have hm : nkB m.2 = true := by
   rcases hz with ⟨_, rfl⟩ | ⟨_, rfl⟩ | ⟨_, rfl⟩ | ⟨_, rfl⟩
   all_goals decide +kernel
 have hz : Nm z 40 := by
   rcases hz with ⟨rfl, _⟩ | ⟨rfl, _⟩ | ⟨rfl, _⟩ | ⟨rfl, _⟩
   all_goals exact fixed_is _ (by simp)
 have k := nm_sym true kVoid ⟨#[116, 50]⟩ [] (htT ++ pBra :: (wcat (m :: L) ++ [pKet])) fit_t (nks_cons hm h)
 refine nc_of (by decide +kernel) (by decide +kernel) (by simp [mlT]) ?_ ?_
 · intro i hi
   unfold mlT at hi
   simp only [List.mem_cons, List.not_mem_nil, or_false] at hi
   rcases hi with rfl | rfl | rfl
   · exact hz.ok
   · exact (fixed_is _ (by simp)).ok
   · exact k.ok
 · have s1 := (fixed_is mt1 (by simp)).sz
   have sk : (mtT (m :: L)).2.size ≤ _ := k.sz
   have sz := hz.sz
   unfold mlT
   simp only [size_cons, size_nil]
   omega
theorem may_of {C : List It} (h1 : C.length ≤ 20) (h2 : ∀ i ∈ C, okT i.2 0 = true) (h3 : sizeL (ncat C) ≤ 3000) : mayB (ncat C) = true := by
 unfold mayB
 rw [decide_eq_true h3, Bool.and_true, show (ncat C).length = C.length by unfold ncat; rw [List.length_map], decide_eq_true h1, Bool.true_and, List.all_eq_true]
 intro x hx
 obtain ⟨i, hi, rfl⟩ := List.mem_map.1 hx
 exact h2 i hi
end
set_option maxRecDepth 100000
section
open Go.RowKit
theorem spB_app (b X Y : List UInt8) : spB b (X ++ Y) = spB b X ++ spB b Y := by simp [spB]
theorem spB_cat (b : List UInt8) : ∀ L : List Sg, spB b (catS [] L) = catS b L
 | [] => rfl
 | s :: L => by rw [catS_cons, spB_app, spB_cat b L]; rfl
structure RdS (zss : List (List Int)) (L : List Sg) (C : List It) : Prop where
 src : (srcT zss).data.toList = catS [] L ++ [10]
 path : Path 99 L 10
 words : wof L = wcat C
 cls : ∀ i ∈ C, CG i
 may : mayB (ncat C) = true
theorem w2 (i j : It) : wcat [i, j] = i.1 ++ j.1 := by simp [wcat]
theorem w3 (i j k : It) : wcat [i, j, k] = i.1 ++ (j.1 ++ k.1) := by simp [wcat]
theorem w4 (i j k l : It) : wcat [i, j, k, l] = i.1 ++ (j.1 ++ (k.1 ++ l.1)) := by simp [wcat]
theorem mem2 {P : It → Prop} {i j : It} (h1 : P i) (h2 : P j) : ∀ x ∈ [i, j], P x := by simp [h1, h2]
theorem mem3 {P : It → Prop} {i j k : It} (h1 : P i) (h2 : P j) (h3 : P k) : ∀ x ∈ [i, j, k], P x := by simp [h1, h2, h3]
theorem mem4 {P : It → Prop} {i j k l : It} (h1 : P i) (h2 : P j) (h3 : P k) (h4 : P l) : ∀ x ∈ [i, j, k, l], P x := by simp [h1, h2, h3, h4]
theorem rds_of (zss : List (List Int)) : ∃ L C, RdS zss L C := by
 obtain ⟨X0, X1, X2, X3, s, L, p0, p1, p2, p3, hs, e, hL⟩ := src_parts zss
 obtain ⟨z, m, hz, hzm⟩ := tz_is hs
 have o0 := ok_of_mem p0 ok_tI
 have o1 := ok_of_mem p1 ok_tIS
 have o2 := ok_of_mem p2 ok_tI
 have o3 := ok_of_mem p3 ok_tO
 have a0 := ncA (nks_ps nkI p0)
 have a1 := ncB (nks_ps nkIS p1)
 have a1r := ncR (nks_ps nkIS p1)
 have a2 := ncC (nks_ps nkI p2)
 have a3 := ncT hzm (nks_ps nkO p3)
 have b0 := cgA (gd_ok o0)
 have b1 := cgB (gd_ok o1)
 have b1r := cgR (gd_ok o1)
 have b2 := cgC (gd_ok o2)
 have b3 := cgT hz.mb hz.gd (gd_ok o3)
 have s0 := a0.sz
 have s1 := a1.sz
 have s1r := a1r.sz
 have s2 := a2.sz
 have s3 := a3.sz
 have q0 := path_A p0
 have q1 := path_B p1
 have q1r := path_R p1
 have q2 := path_C p2
 have q3 := path_T hs p3
 rcases hL with rfl | rfl | rfl
 · refine ⟨_, [_, _], e, q0.app q3, ?_, mem2 b0 b3, may_of (by simp) (mem2 a0.ok a3.ok) ?_⟩
   · rw [wof_app, wA_is o0, wT_is hz o3, w2]
   · simp only [size_cons, size_nil]; omega
 · refine ⟨_, [_, _, _], e, q0.app (q1.app q3), ?_, mem3 b0 b1 b3, may_of (by simp) (mem3 a0.ok a1.ok a3.ok) ?_⟩
   · rw [wof_app, wof_app, wA_is o0, wB_is o1, wT_is hz o3, w3]
   · simp only [size_cons, size_nil]; omega
 · refine ⟨_, [_, _, _, _], e, q0.app (q1r.app (q2.app q3)), ?_, mem4 b0 b1r b2 b3, may_of (by simp) (mem4 a0.ok a1r.ok a2.ok a3.ok) ?_⟩
   · rw [wof_app, wof_app, wof_app, wA_is o0, wR_is o1, wC_is o2, wT_is hz o3, w4]
   · simp only [size_cons, size_nil]; omega
theorem low_nl : low [10] := fun b hb => by simp at hb; subst hb; decide
theorem bad_nl : bad (B [10]) < 0 := by decide +kernel
theorem rds_read {zss : List (List Int)} {L : List Sg} {C : List It} (h : RdS zss L C) {bb : List UInt8} (hb : bb ∈ bks) (t : ByteArray) (ht : t.data.toList = spB bb (srcT zss).data.toList) (hs : ¬ 8000 < t.size) : prO t = (0, 0) ∧ prT t = ncat C := by
 have e : t.data.toList = catS bb L ++ [10] := by rw [ht, h.src, spB_app, spB_cat]; rfl
 have hl : LxP t.data.toList (wof L) := by
   have := path_lx hb h.path rfl lx_end
   rw [e]; simpa using this
 have hbad : bad t < 0 := by
   have := path_bad hb h.path rfl low_nl bad_nl
   rw [← e] at this
   exact this
 have h2 := er_prg (RS0 t)
 rw [rs0_of t (wof L) hs hl hbad, h.words, prg_items C h.cls] at h2
 have hn : ncat C = (prg (RS0 t)).1 := congrArg Prod.fst h2
 have hr : S1 0 [] = er (prg (RS0 t)).2 := congrArg Prod.snd h2
 have hw : (prg (RS0 t)).2.wc = 0 := (congrArg RS.wc hr).symm
 have hc : (prg (RS0 t)).2.lc = 0 := (congrArg RS.lc hr).symm
 have hO : prO t = (0, 0) := by
   unfold prO
   dsimp only
   rw [hw, hc, prg_wz (wz0 t) hw, ← hn, h.may]
   simp [orF]
 refine ⟨hO, ?_⟩
 unfold prT
 rw [hO, if_pos rfl, ← hn]
theorem spaced (zss : List (List Int)) {bb : List UInt8} (hb : bb ∈ bks) (t : ByteArray) (ht : t.data.toList = spB bb (srcT zss).data.toList) (hs : ¬ 8000 < t.size) : prO t = (0, 0) ∧ prT t = prT (srcT zss) := by
 obtain ⟨L, C, h⟩ := rds_of zss
 have h0 := rds_read h (bb := []) (by simp [bks]) (srcT zss) (sp_nil _).symm (by have := srcT_size zss; omega)
 have h1 := rds_read h hb t ht hs
 exact ⟨h1.1, h1.2.trans h0.2.symm⟩
theorem unspaced (zss : List (List Int)) : prO (srcT zss) = (0, 0) := by
 obtain ⟨L, C, h⟩ := rds_of zss
 exact (rds_read h (bb := []) (by simp [bks]) (srcT zss) (sp_nil _).symm (by have := srcT_size zss; omega)).1
end
end Go.Proofs.YtipcoglddfgopaaGreatDoor
