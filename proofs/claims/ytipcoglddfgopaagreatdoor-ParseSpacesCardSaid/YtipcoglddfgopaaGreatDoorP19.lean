/- Parts of the proof: TreeP, TreeQ, TreeR. -/
import Derived.Test.YtipcoglddfgopaaGreatDoorP18
set_option maxHeartbeats 4000000
set_option maxRecDepth 100000
namespace Go.Proofs.YtipcoglddfgopaaGreatDoor
set_option linter.unusedSimpArgs false
set_option linter.unusedVariables false
section
open Go.RowKit
def stepN (x y : Nd) : Nat := match x.tag, y.tag with | .cl, _ => 0 | .st, .ex => 0 | _, _ => 1
theorem step_of (w : World) (p q : Pt) : Calls Tryz.prog 44 #[ptV p, ptV q] w fun e w' => e = .returned (.int .i64 (stepN p.x q.x)) ∧ w = w' := by
 obtain ⟨b, o, x⟩ := p
 obtain ⟨b', o', y⟩ := q
 cases x <;> cases y
 all_goals simp only [ptV, Nd.tag, Tg.ptr, stepN]
 all_goals go_enter Tryz.func44, Tryz.ntmps44
 all_goals go_wp2_with fail
 all_goals (go_ret; exact ⟨rfl, rfl⟩)
theorem fits_any (w : World) (p : Pt) (hp : p.at_ w) : Calls Tryz.prog 42 #[ptV p] w fun e w' => e = .returned (.bool (fitsB p.x)) ∧ Below w.heap.size w w' := by
 obtain ⟨b, o, x⟩ := p
 cases x with
 | ex k n tx nm ty v l own nth =>
   have HC := Lib.hid (exprFits_any w b o _ _ _ _ _ _ _ _ _ hp)
   obtain ⟨r, hr⟩ : ∃ r, fitsB (.ex k n tx nm ty v l own nth) = r := ⟨_, rfl⟩
   rw [hr] at HC ⊢
   clear hr hp
   simp only [ptV, Nd.tag, Tg.ptr]
   go_enter Tryz.func42, Tryz.ntmps42
   go_wp2_with (go_at_call 68; refine HC.out.mono ?_; clear HC; rintro e w1 ⟨rfl, hb⟩)
   go_ret
   exact ⟨rfl, hb⟩
 | st k n ty nm ve va vb vc le a b' c nth =>
   have HC := Lib.hid (stmtFits_any w b o _ _ _ _ _ _ _ _ _ _ _ _ _ hp)
   obtain ⟨r, hr⟩ : ∃ r, fitsB (.st k n ty nm ve va vb vc le a b' c nth) = r := ⟨_, rfl⟩
   rw [hr] at HC ⊢
   clear hr hp
   simp only [ptV, Nd.tag, Tg.ptr]
   go_enter Tryz.func42, Tryz.ntmps42
   go_wp2_with (go_at_call 69; refine HC.out.mono ?_; clear HC; rintro e w1 ⟨rfl, hb⟩)
   go_ret
   exact ⟨rfl, hb⟩
 | mt s c ty nm vp ps v l =>
   have HC := Lib.hid (methodFits_any w b o _ _ _ _ _ _ _ _ hp)
   obtain ⟨r, hr⟩ : ∃ r, fitsB (.mt s c ty nm vp ps v l) = r := ⟨_, rfl⟩
   rw [hr] at HC ⊢
   clear hr hp
   simp only [ptV, Nd.tag, Tg.ptr]
   go_enter Tryz.func42, Tryz.ntmps42
   go_wp2_with (go_at_call 70; refine HC.out.mono ?_; clear HC; rintro e w1 ⟨rfl, hb⟩)
   go_ret
   exact ⟨rfl, hb⟩
 | cl nm sp vf vm f m =>
   have HC := Lib.hid (classFits_any w b o _ _ _ _ _ _ hp)
   obtain ⟨r, hr⟩ : ∃ r, fitsB (.cl nm sp vf vm f m) = r := ⟨_, rfl⟩
   rw [hr] at HC ⊢
   clear hr hp
   simp only [ptV, Nd.tag, Tg.ptr]
   go_enter Tryz.func42, Tryz.ntmps42
   go_wp2_with (go_at_call 72; refine HC.out.mono ?_; clear HC; rintro e w1 ⟨rfl, hb⟩)
   go_ret
   exact ⟨rfl, hb⟩
 | fd s ty nm v l =>
   have hk := hp.2; rw [Kd] at hk
   obtain ⟨A, cap, rfl⟩ := hk.2.1.form
   have c1 : w.cell? ⟨b, o + 1, none⟩ = some (.string ty) := hp.cell 1 rfl
   have c2 : w.cell? ⟨b, o + 2, none⟩ = some (.string nm) := hp.cell 2 rfl
   have c3 : w.cell? ⟨b, o + 3, none⟩ = some (.slice A l.length cap) := hp.cell 3 rfl
   obtain ⟨n, hn⟩ : ∃ n, l.length = n := ⟨_, rfl⟩
   obtain ⟨q0, e0⟩ : ∃ q, valT ty = q := ⟨_, rfl⟩
   obtain ⟨q1, e1⟩ : ∃ q, nameOk nm = q := ⟨_, rfl⟩
   obtain ⟨q2, e2⟩ : ∃ q, decide (n ≤ 1) = q := ⟨_, rfl⟩
   have HF : fitsB (.fd s ty nm (.slice A l.length cap) l) = (q0 && (q1 && q2)) := by simp only [fitsB, e0, e1, hn, e2]
   rw [hn] at c3
   have g2 : decide ((n : Int) ≤ 1) = q2 := by rw [← e2]; simp only [decide_eq_decide]; omega
   have HV := Lib.hid (type_ok ty hk.1.1 w q0 e0)
   have HNM : Hid (∀ w1, Calls Tryz.prog 58 #[.string nm] w1 fun e w' => e = .returned (.bool q1) ∧ Below w1.heap.size w1 w') := by
     show ∀ w1, _
     intro w1; exact name_ok nm hk.1.2 w1 q1 e1
   rw [HF]
   clear HF hp hk hn e0 e1 e2
   simp only [ptV, Nd.tag, Tg.ptr]
   cases q0
   · go_enter Tryz.func42, Tryz.ntmps42
     go_wp2_with (go_at_call 71; refine HV.out.mono ?_; clear HV; rintro e w1 ⟨rfl, hb1⟩)
     go_ret
     exact ⟨ret_bool (by simp), hb1⟩
   · go_enter Tryz.func42, Tryz.ntmps42
     go_wp2_with fail
     refine HV.out.mono ?_
     clear HV
     rintro e w1 ⟨rfl, hb1⟩
     have d2 := (Keep.below hb1) _ _ c2
     have d3 := (Keep.below hb1) _ _ c3
     go_wp2_with fail
     refine (HNM.out _).mono ?_
     clear HNM
     rintro e w2 ⟨rfl, hb2⟩
     have d3 := (Keep.below hb2) _ _ d3
     have hb3 := hb1.trans (hb2.mono hb1.size)
     cases q1
     · go_wp2_with fail
       go_ret
       exact ⟨ret_bool (by simp), hb3⟩
     · cases q2
       · go_wp2_with fail
         go_ret
         exact ⟨ret_bool (by simp), hb3⟩
       · go_wp2_with fail
         go_ret
         exact ⟨ret_bool (by simp), hb3⟩
end
section
open Go.RowKit
def okT (x : Nd) (deep : Nat) : Bool := decide (deep ≤ 40) && (fitsB x && x.kids.attach.all fun y => okT y.1 (deep + stepN x y.1))
termination_by x.size
decreasing_by
 have h1 := size_mem y.2
 have h2 := size_kids x
 omega
theorem okT_eq (x : Nd) (deep : Nat) : okT x deep = (decide (deep ≤ 40) && (fitsB x && x.kids.all fun y => okT y (deep + stepN x y))) := by
 rw [okT]
 congr 2
 rw [Bool.eq_iff_iff]
 simp [List.all_eq_true]
theorem stepN_le (x y : Nd) : stepN x y ≤ 1 := by unfold stepN; split <;> omega
theorem grown_set (w : World) (c : Nat) (u : Value) : w.grownBy (w.setCell ⟨c, 0, none⟩ u) (some c) :=
 ⟨rfl, rfl, rfl, by simp, fun k hk hne => Below.heap_setCell w _ u k (fun e => hne (by rw [e]))⟩
theorem grown_below {w w' : World} {r : Option Nat} (h : Below w.heap.size w w') : w.grownBy w' r := ⟨h.os, h.tape, h.output, h.size, fun k hk _ => h.block k hk⟩
theorem below_grown {W0 w w' : World} {c : Nat} (hb : Below W0.heap.size W0 w) (hg : w.grownBy w' (some c)) (hc : W0.heap.size ≤ c) : Below W0.heap.size W0 w' := hb.grown hg hb.size (by rintro k ⟨rfl⟩; exact hc)
def TakesSaid (w : World) (c : Nat) (m : Int) (r : Bool) (sz : Nat) (e : Ending) (w' : World) : Prop :=
 e = .returned (.bool r) ∧ w.grownBy w' (some c) ∧ ∃ m', Bx w' c #[.int .i64 m'] 78 ∧ (r = true → m' = m - sz)
def okP (x : Nd) (deep : Nat) (l : List Pt) : Bool := l.all fun q => okT q.x (deep + stepN x q.x)
structure TK (W0 w : World) (c : Nat) (m : Int) (p : Pt) (deep : Nat) (v : Value) (n : Nat) (k : Nat) (wr : World) : Prop where
 own : wr.ownsRow W0.heap.size 102 1 v n ((kidsP p.x).map ptV)
 bel : Below W0.heap.size W0 wr
 gro : w.grownBy wr (some c)
 bx : Bx wr c #[.int .i64 (m - 1 - (sizeP ((kidsP p.x).take k) : Nat))] 78
 ne : v.ownBlock ≠ some c
 ok : okP p.x deep ((kidsP p.x).take k) = true
 pos : 0 ≤ m - 1 - (sizeP ((kidsP p.x).take k) : Nat)
theorem own_at {w : World} {B n : Nat} {e : TypeId} {v : Value} {xs : List Value} (h : w.ownsRow B e 1 v n xs) (hn : 0 < n) : ∃ g cap, v = .slice (some ⟨g, 0, none⟩) n cap ∧ ∀ k u, xs[k]? = some u → w.cell? ⟨g, k, none⟩ = some u := by
 obtain ⟨g, cap, rfl, _, _⟩ := h.form hn
 refine ⟨g, cap, rfl, fun k u hu => ?_⟩
 have hc := h.cells (g := g) rfl k u hu
 have hadd : (⟨g, 0, none⟩ : Addr).add k = ⟨g, k, none⟩ := by unfold Addr.add; split <;> simp_all
 rw [hadd] at hc; exact hc
theorem take_more {l : List Pt} {k : Nat} {q : Pt} (h : l[k]? = some q) : l.take (k + 1) = l.take k ++ [q] := by rw [List.take_add_one, h]; simp
theorem TK.step {W0 w wr w' : World} {c : Nat} {m : Int} {p q : Pt} {deep : Nat} {v : Value} {n k : Nat} (h : TK W0 w c m p deep v n k wr) (hc : W0.heap.size ≤ c) (hq : (kidsP p.x)[k]? = some q)
   (hs : TakesSaid wr c (m - 1 - (sizeP ((kidsP p.x).take k) : Nat)) true q.x.size (.returned (.bool true)) w') (hr : (okT q.x (deep + stepN p.x q.x) && decide ((q.x.size : Int) ≤ m - 1 - (sizeP ((kidsP p.x).take k) : Nat))) = true) : TK W0 w c m p deep v n (k + 1) w' := by
 obtain ⟨_, hg, m', hbx, hm⟩ := hs
 rw [Bool.and_eq_true, decide_eq_true_eq] at hr
 have e1 : (m - 1 - (sizeP ((kidsP p.x).take k) : Nat)) - q.x.size = m - 1 - (sizeP ((kidsP p.x).take (k + 1)) : Nat) := by
   rw [take_more hq, sizeP_append, sizeP_one]; omega
 refine ⟨h.own.kept hg (.inr h.ne), below_grown h.bel hg hc, h.gro.trans hg, ?_, h.ne, ?_, ?_⟩
 · rw [← e1, ← hm rfl]; exact hbx
 · rw [take_more hq]; unfold okP; rw [List.all_append, Bool.and_eq_true]; exact ⟨h.ok, by simpa using hr.1⟩
 · rw [← e1]; omega
theorem TK.fail {W0 w wr : World} {c : Nat} {m : Int} {p q : Pt} {deep : Nat} {v : Value} {n k : Nat} (h : TK W0 w c m p deep v n k wr) (hk : Kd W0 p.x) (hq : (kidsP p.x)[k]? = some q)
   (hr : (okT q.x (deep + stepN p.x q.x) && decide ((q.x.size : Int) ≤ m - 1 - (sizeP ((kidsP p.x).take k) : Nat))) = false) : (okT p.x deep && decide ((p.x.size : Int) ≤ m)) = false := by
 rw [Bool.and_eq_false_iff] at hr ⊢
 rcases hr with hr | hr
 · left
   rw [okT_eq, Bool.and_eq_false_iff, Bool.and_eq_false_iff]
   right; right
   rw [List.all_eq_false]
   refine ⟨q.x, ?_, by rw [hr]; simp⟩
   rw [← kidsP_x hk]
   exact List.mem_map_of_mem (List.mem_of_getElem? hq)
 · right
   rw [decide_eq_false_iff_not] at hr ⊢
   rw [sizeP_kids hk]
   have h1 : sizeP (kidsP p.x) = sizeP ((kidsP p.x).take (k + 1)) + sizeP ((kidsP p.x).drop (k + 1)) := by rw [← sizeP_append, List.take_append_drop]
   rw [h1, take_more hq, sizeP_append, sizeP_one]
   omega
theorem TK.all {W0 w wr : World} {c : Nat} {m : Int} {p : Pt} {deep : Nat} {v : Value} {n k : Nat} (h : TK W0 w c m p deep v n k wr) (hk : Kd W0 p.x) (hn : (kidsP p.x).length ≤ k) (hd : deep ≤ 40) (hf : fitsB p.x = true) : TakesSaid w c m (okT p.x deep && decide ((p.x.size : Int) ≤ m)) p.x.size (.returned (.bool true)) wr := by
 have ht : (kidsP p.x).take k = kidsP p.x := List.take_of_length_le hn
 have h1 := h.bx; have h2 := h.ok; have h3 := h.pos
 rw [ht] at h1 h2 h3
 have hz := sizeP_kids hk
 have hok : okT p.x deep = true := by
   rw [okT_eq, decide_eq_true hd, hf, Bool.true_and, Bool.true_and, ← kidsP_x hk, List.all_map]
   exact h2
 have hle : (p.x.size : Int) ≤ m := by omega
 rw [hok, decide_eq_true hle]
 refine ⟨rfl, h.gro, _, h1, fun _ => by omega⟩
theorem takes_false {w w' : World} {c : Nat} {m : Int} {sz : Nat} {r : Bool} (hr : r = false) (hg : w.grownBy w' (some c)) {m' : Int} (hb : Bx w' c #[.int .i64 m'] 78) : TakesSaid w c m r sz (.returned (.bool false)) w' := by
 subst hr; exact ⟨rfl, hg, m', hb, fun h => by cases h⟩
theorem takes_any : ∀ (N : Nat) (W0 w : World) (c : Nat) (m : Int) (p : Pt) (deep : Nat) (d : Int), p.x.size ≤ N → p.x.size ≤ 1000000 → p.at_ W0 → Below W0.heap.size W0 w → W0.heap.size ≤ c → Bx w c #[.int .i64 m] 78 → 0 ≤ m → m ≤ 3000 → deep ≤ 41 → d = deep →
   Calls Tryz.prog 27 #[.pointer (some ⟨c, 0, none⟩), ptV p, .int .i64 d] w (TakesSaid w c m (okT p.x deep && decide ((p.x.size : Int) ≤ m)) p.x.size) := by
 intro N
 induction N with
 | zero => intro W0 w c m p deep d h; have := size_pos p.x; omega
 | succ N ih =>
   intro W0 w c m p deep d hN hS hp hb hc hbx hm0 hm1 hdeep hd
   subst hd
   have c0 : w.cell? ⟨c, 0, none⟩ = some (.int .i64 m) := by rw [hbx.cell 0]; rfl
   have f0 := hbx.fro 0
   have hclt := hbx.lt
   have hset : Bx (w.setCell ⟨c, 0, none⟩ (.int .i64 (m - 1))) c #[.int .i64 (m - 1)] 78 := by simpa using hbx.set 0 (.int .i64 (m - 1))
   have hbs : Below W0.heap.size W0 (w.setCell ⟨c, 0, none⟩ (.int .i64 (m - 1))) := hb.setCell hc _
   have HF := Lib.hid (fits_any (w.setCell ⟨c, 0, none⟩ (.int .i64 (m - 1))) p (hp.below hbs))
   have HG := Lib.hid (grown_set w c (.int .i64 (m - 1)))
   have HP := Lib.hid hp
   have HB := Lib.hid hbs
   have HS := Lib.hid hset
   have HSZ := Lib.hid hS
   have hpos := size_pos p.x
   obtain ⟨f, hf⟩ : ∃ f, fitsB p.x = f := ⟨_, rfl⟩
   obtain ⟨r, hr⟩ : ∃ r, (okT p.x deep && decide ((p.x.size : Int) ≤ m)) = r := ⟨_, rfl⟩
   rw [hf] at HF
   rw [hr]
   have HR := Lib.hid hr
   have HFF := Lib.hid hf
   have HBX := Lib.hid hbx
   clear hp hb hbx hset hbs hf hr hS
   by_cases hz : m = 0
   · have HT := Lib.hid (show r = false by rw [← HR.out, decide_eq_false (by omega)]; simp)
     subst hz
     go_enter Tryz.func27, Tryz.ntmps27
     go_wp2_with fail
     go_ret
     exact takes_false HT.out HG.out HS.out
   · have hm2 : 0 ≤ m - 1 := by omega
     have hm3 : m - 1 ≤ 3000 := by omega
     by_cases h40 : deep ≤ 40
     · have h40' : (deep : Int) ≤ 40 := by omega
       cases f
       · have HT := Lib.hid (show r = false by rw [← HR.out, okT_eq, HFF.out]; simp)
         go_enter Tryz.func27, Tryz.ntmps27
         go_wp2_with (go_at_call 42; refine HF.out.mono ?_; clear HF; rintro e w2 ⟨rfl, hb2⟩)
         go_ret
         exact takes_false HT.out (HG.out.trans (grown_below hb2)) (HS.out.next hb2)
       · go_enter Tryz.func27, Tryz.ntmps27
         go_wp2_with fail
         refine HF.out.mono ?_
         clear HF
         rintro e w2 ⟨rfl, hb2⟩
         have hbel2 := HB.out.trans (hb2.mono HB.out.size)
         have hlk := len_sizeP (kidsP p.x)
         have hsk := sizeP_kids HP.out.2
         have HW := Lib.hid (within_any W0 w2 (.slice none 0 0) [] p hbel2 (by simpa using World.ownsRow_nil w2 W0.heap.size 102 1) HP.out (by simp only [List.length_nil]; have := HSZ.out; omega))
         have HG2 := Lib.hid (HG.out.trans (grown_below hb2))
         have HS2 := Lib.hid (HS.out.next hb2)
         have HB2 := Lib.hid hbel2
         have hsz2 := hb2.size
         clear hb2 hbel2 HB HS HG
         clear hlk hsk
         go_wp2_with fail
         refine HW.out.mono ?_
         clear HW
         rintro e w3 ⟨v3, rfl, ho3, hg3⟩
         have hb3 := hg3.of_nil rfl
         obtain ⟨n, hn⟩ : ∃ n, (kidsP p.x).length = n := ⟨_, rfl⟩
         simp only [List.nil_append, hn] at ho3
         have T0 : TK W0 w c m p deep v3 n 0 w3 := ⟨ho3, HB2.out.trans (hb3.mono HB2.out.size), HG2.out.trans (grown_below hb3), by simpa [sizeP, sizeL] using HS2.out.next hb3, by
           rcases hg3.2 with e | e
           · rw [e]; simp [Value.ownBlock]
           · intro e'; have := e c e'; have := HS2.out.lt; omega, by simp [okP], by simp [sizeP, sizeL]; omega⟩
         have hnl : n ≤ 1000000 := by have := len_sizeP (kidsP p.x); have := sizeP_kids HP.out.2; have := HSZ.out; omega
         obtain ⟨A, cap, rfl, _⟩ := own_form ho3
         have HT0 := Lib.hid T0
         have HN := Lib.hid hn
         clear ho3 hg3 hb3 hn T0 HG2 HS2 HB2 hsz2
         go_wp2_with fail
         go_loopw [33] (fun v33 wr => ∃ k : Nat, v33 = .int .i64 k ∧ k ≤ n ∧ TK W0 w c m p deep (.slice A n cap) n k wr) (fun v33 wr => n - (intOf v33).toNat)
         case atStart => exact ⟨0, rfl, Nat.zero_le _, HT0.out⟩
         case round =>
           obtain ⟨k, rfl, hkn, hT⟩ := hrel
           clear HT0
           by_cases hlt : k < n
           · obtain ⟨g, cap', hv, hat⟩ := own_at hT.own (by omega)
             injection hv with hv1 hv2 hv3
             subst hv1
             clear hv2 hv3
             have hkl : k < (kidsP p.x).length := by rw [HN.out]; exact hlt
             obtain ⟨q, hq⟩ : ∃ q, (kidsP p.x)[k]? = some q := ⟨_, List.getElem?_eq_getElem hkl⟩
             have d0 : wr.cell? ⟨g, k, none⟩ = some (ptV q) := hat k _ (by rw [List.getElem?_map, hq]; rfl)
             obtain ⟨st, hst⟩ : ∃ st, stepN p.x q.x = st := ⟨_, rfl⟩
             have hst1 : st ≤ 1 := by rw [← hst]; exact stepN_le _ _
             have HST := Lib.hid (step_of wr p q)
             rw [hst] at HST
             have hqm := List.mem_of_getElem? hq
             have hqs : q.x.size ≤ sizeP (kidsP p.x) := size_mem (List.mem_map_of_mem hqm)
             have hps := sizeP_kids HP.out.2
             have hle : sizeP ((kidsP p.x).take k) ≤ 1000000 := by
               have : sizeP (kidsP p.x) = sizeP ((kidsP p.x).take k) + sizeP ((kidsP p.x).drop k) := by rw [← sizeP_append, List.take_append_drop]
               have := HSZ.out; omega
             obtain ⟨mk, hmk⟩ : ∃ mk, m - 1 - (sizeP ((kidsP p.x).take k) : Nat) = mk := ⟨_, rfl⟩
             have hbxk := hT.bx; have hposk := hT.pos
             rw [hmk] at hbxk hposk
             obtain ⟨s, hs⟩ : ∃ s, (okT q.x (deep + st) && decide ((q.x.size : Int) ≤ mk)) = s := ⟨_, rfl⟩
             have HIH := Lib.hid (ih W0 wr c mk q (deep + st) ((deep : Int) + (st : Int)) (by omega) (by have := HSZ.out; omega) (kidsP_at HP.out.2 q hqm) hT.bel hc hbxk hposk (by omega) (by omega) (by omega))
             rw [hs] at HIH
             have HQ := Lib.hid hq
             have HS1 := Lib.hid (show (okT q.x (deep + stepN p.x q.x) && decide ((q.x.size : Int) ≤ m - 1 - (sizeP ((kidsP p.x).take k) : Nat))) = s by rw [hst, hmk]; exact hs)
             have HMK := Lib.hid hmk
             have HTT := Lib.hid hT
             have hst' : (st : Int) ≤ 1 := by omega
             clear hat hT hq hst hqm hqs hps hle hmk hbxk hposk hs
             cases s
             · have HX := Lib.hid (show r = false by rw [← HR.out]; exact HTT.out.fail HP.out.2 HQ.out HS1.out)
               go_wp2_with fail
               refine HST.out.mono ?_
               rintro e w4 ⟨rfl, rfl⟩
               go_wp2_with fail
               refine HIH.out.mono ?_
               clear HIH
               rintro e w5 ⟨rfl, hg5, m5, hbx5, _⟩
               have HG5 := Lib.hid (HTT.out.gro.trans hg5)
               have HB5 := Lib.hid hbx5
               clear hg5 hbx5
               go_wp2_with fail
               go_ret
               exact takes_false HX.out HG5.out HB5.out
             · go_wp2_with fail
               refine HST.out.mono ?_
               rintro e w4 ⟨rfl, rfl⟩
               go_wp2_with fail
               refine HIH.out.mono ?_
               clear HIH
               rintro e w5 ⟨rfl, hg5, m5, hbx5, hm5⟩
               have HT5 := Lib.hid (HTT.out.step (w' := w5) hc HQ.out ⟨rfl, hg5, m5, hbx5, by rw [HMK.out]; exact hm5⟩ HS1.out)
               clear hg5 hbx5 hm5
               go_wp2_with fail
               go_roundw
               case rel => exact ⟨k + 1, by go_num, by omega, HT5.out⟩
               case measure => simp [intOf]; omega
           · have HE := Lib.hid (hT.all HP.out.2 (by rw [HN.out]; omega) h40 HFF.out)
             rw [HR.out] at HE
             clear hT
             go_wp2_with fail
             go_ret
             exact HE.out
     · have HT := Lib.hid (show r = false by rw [← HR.out, okT_eq, decide_eq_false h40]; simp)
       have h40' : (40 : Int) < deep := by omega
       clear HF
       go_enter Tryz.func27, Tryz.ntmps27
       go_wp2_with fail
       go_ret
       exact takes_false HT.out HG.out HS.out
end
section
open Go.RowKit
def mayB (l : List Nd) : Bool := decide (l.length ≤ 20) && (l.all (fun x => okT x 0) && decide (sizeL l ≤ 3000))
structure MR (W0 : World) (c : Nat) (ps : List Pt) (k : Nat) (wr : World) : Prop where
 bel : Below W0.heap.size W0 wr
 bx : Bx wr c #[.int .i64 (3000 - (sizeP (ps.take k) : Nat))] 78
 ok : (ps.take k).all (fun q => okT q.x 0) = true
 pos : sizeP (ps.take k) ≤ 3000
theorem all_map_x (ps : List Pt) (f : Nd → Bool) : (ps.map Pt.x).all f = ps.all fun q => f q.x := by rw [List.all_map]; rfl
theorem MR.step {W0 w' wr : World} {c : Nat} {ps : List Pt} {q : Pt} {k : Nat} (h : MR W0 c ps k wr) (hc : W0.heap.size ≤ c) (hq : ps[k]? = some q)
   (hs : TakesSaid wr c (3000 - (sizeP (ps.take k) : Nat)) true q.x.size (.returned (.bool true)) w') (hr : (okT q.x 0 && decide ((q.x.size : Int) ≤ 3000 - (sizeP (ps.take k) : Nat))) = true) : MR W0 c ps (k + 1) w' := by
 obtain ⟨_, hg, m', hbx, hm⟩ := hs
 rw [Bool.and_eq_true, decide_eq_true_eq] at hr
 have e1 : (3000 - (sizeP (ps.take k) : Nat) : Int) - q.x.size = 3000 - (sizeP (ps.take (k + 1)) : Nat) := by
   rw [take_more hq, sizeP_append, sizeP_one]; omega
 refine ⟨below_grown h.bel hg hc, ?_, ?_, ?_⟩
 · rw [← e1, ← hm rfl]; exact hbx
 · rw [take_more hq, List.all_append, Bool.and_eq_true]; exact ⟨h.ok, by simpa using hr.1⟩
 · omega
theorem MR.fail {W0 wr : World} {c : Nat} {ps : List Pt} {q : Pt} {k : Nat} (h : MR W0 c ps k wr) (hq : ps[k]? = some q)
   (hr : (okT q.x 0 && decide ((q.x.size : Int) ≤ 3000 - (sizeP (ps.take k) : Nat))) = false) : mayB (ps.map Pt.x) = false := by
 unfold mayB
 rw [Bool.and_eq_false_iff, Bool.and_eq_false_iff]
 right
 rw [Bool.and_eq_false_iff] at hr
 rcases hr with hr | hr
 · left
   rw [all_map_x, List.all_eq_false]
   exact ⟨q, List.mem_of_getElem? hq, by rw [hr]; simp⟩
 · right
   rw [decide_eq_false_iff_not] at hr ⊢
   show ¬ sizeP ps ≤ 3000
   have h1 : sizeP ps = sizeP (ps.take (k + 1)) + sizeP (ps.drop (k + 1)) := by rw [← sizeP_append, List.take_append_drop]
   rw [h1, take_more hq, sizeP_append, sizeP_one]
   omega
theorem MR.all {W0 wr : World} {c : Nat} {ps : List Pt} {k : Nat} (h : MR W0 c ps k wr) (hn : ps.length ≤ k) (h20 : ps.length ≤ 20) : mayB (ps.map Pt.x) = true := by
 have ht : ps.take k = ps := List.take_of_length_le hn
 have h2 := h.ok; have h3 := h.pos
 rw [ht] at h2 h3
 unfold mayB
 rw [Bool.and_eq_true, Bool.and_eq_true, decide_eq_true_eq, decide_eq_true_eq, all_map_x]
 exact ⟨by simpa using h20, h2, h3⟩
theorem may_any (w : World) (v : Value) (l : List Nd) (hr : Rw w .cl v l) (hk : KdL w l) (hs : sizeL l ≤ 1000000) (r : Bool) (hres : mayB l = r) :
   Calls Tryz.prog 18 #[.agg #[v]] w fun e w' => e = .returned (.bool r) ∧ Below w.heap.size w w' := by
 have hm : l.length ≤ maxLen := by obtain ⟨_, _, _, hm, _⟩ := hr; exact hm.1
 unfold maxLen at hm
 obtain ⟨A, cap, rfl⟩ := hr.form
 obtain ⟨n, hn⟩ : ∃ n, l.length = n := ⟨_, rfl⟩
 by_cases h20 : n ≤ 20
 · have K := keep_alloc w (.cells #[.slice A l.length cap] 29)
   have hr1 := hr.keep K
   have hk1 := KdL.keep K _ hk
   have c0 : (w.alloc (.cells #[.slice A n cap] 29)).cell? ⟨w.heap.size, 0, none⟩ = some (.slice A n cap) := by simp [go_sem]
   have hb0 : Below w.heap.size w (w.alloc (.cells #[.slice A n cap] 29)) := (Below.refl _ _).alloc (Nat.le_refl _) _
   have hsz0 : (w.alloc (.cells #[.slice A n cap] 29)).heap.size = w.heap.size + 1 := by simp
   rw [hn] at hr1 hk1
   have hat := ptsV_at hr1 hk1
   have hpx := ptsV_x hr1
   have hpl := ptsV_len hr1
   have HAT1 := Lib.hid hr1.at
   have hbx := Bx.new (w.alloc (.cells #[.slice A n cap] 29)) #[.int .i64 3000] 78
   rw [hsz0] at hbx
   rw [hn] at hm ⊢
   clear hr hk K hr1 hk1
   have h20' : (n : Int) ≤ 20 := by omega
   go_enter Tryz.func18, Tryz.ntmps18
   go_wp2_with fail
   obtain ⟨W0, hW0⟩ : ∃ W0, w.alloc (.cells #[.slice A n cap] 29) = W0 := ⟨_, rfl⟩
   obtain ⟨ps, hps⟩ : ∃ ps, ptsV .cl (.slice A n cap) l = ps := ⟨_, rfl⟩
   rw [hW0] at c0 hb0 hsz0 hat hbx ⊢
   rw [hps] at hat hpx hpl
   have HAT2 : Hid (∀ k, k < n → ∃ b o x, A = some ⟨b, o, none⟩ ∧ x.tag = .cl ∧ ps[k]? = some ⟨b, o + k * 4, x⟩) := by
     show ∀ k, _
     intro k hk
     obtain ⟨b, o, x, h1, h2, h3, h4⟩ := HAT1.out.2 k hk
     rw [hps] at h4
     exact ⟨b, o, x, h1, h3, h4⟩
   have hres2 : mayB (ps.map Pt.x) = r := by rw [hpx]; exact hres
   have hsz2 : sizeP ps ≤ 1000000 := by rw [sizeP, hpx]; exact hs
   have HRES := Lib.hid hres2
   have HSZ := Lib.hid hsz2
   have HAT3 := Lib.hid hat
   have hpn : ps.length = n := hpl.trans hn
   have HPN := Lib.hid hpn
   have M0 : MR W0 (w.heap.size + 1) ps 0 (W0.alloc (.cells #[.int .i64 3000] 78)) := ⟨(Below.refl _ W0).alloc (Nat.le_refl _) _, by simpa [sizeP, sizeL] using hbx, by simp, by simp [sizeP, sizeL]⟩
   have HM0 := Lib.hid M0
   have HW := Lib.hid hW0
   have HB0 := Lib.hid hb0
   have hcW : W0.heap.size ≤ w.heap.size + 1 := by omega
   have hcl : w.heap.size < W0.heap.size := by omega
   clear hbx hs hres hn hat hpx hpl HAT1 hps hres2 hsz2 hpn M0 hW0 hsz0 hb0
   go_loopw [13] (fun v13 wr => ∃ k : Nat, v13 = .int .i64 k ∧ k ≤ n ∧ MR W0 (w.heap.size + 1) ps k wr) (fun v13 wr => n - (intOf v13).toNat)
   case atStart => exact ⟨0, rfl, Nat.zero_le _, HM0.out⟩
   case round =>
     obtain ⟨k, rfl, hkn, hM⟩ := hrel
     clear HM0
     by_cases hlt : k < n
     · obtain ⟨b, o, x, rfl, hxt, hq⟩ := HAT2.out k hlt
       have d0 := (Keep.below hM.bel) _ _ c0
       have hbxk := hM.bx
       obtain ⟨mk, hmk⟩ : ∃ mk : Int, (3000 - (sizeP (ps.take k) : Nat) : Int) = mk := ⟨_, rfl⟩
       rw [hmk] at hbxk
       have hposk := hM.pos
       have hpq := HAT3.out _ (List.mem_of_getElem? hq)
       have hqs : x.size ≤ sizeP ps := size_mem (List.mem_map_of_mem (List.mem_of_getElem? hq))
       obtain ⟨s, hs⟩ : ∃ s, (okT x 0 && decide ((x.size : Int) ≤ mk)) = s := ⟨_, rfl⟩
       have hcl2 : W0.heap.size ≤ w.heap.size + 1 := hcW
       have HIH := Lib.hid (takes_any x.size W0 wr (w.heap.size + 1) mk ⟨b, o + k * 4, x⟩ 0 0 (Nat.le_refl _) (show x.size ≤ 1000000 by have := HSZ.out; omega) hpq hM.bel hcl2 hbxk (by omega) (by omega) (by omega) rfl)
       simp only [hs, ptV, hxt, Tg.ptr] at HIH
       have HQ := Lib.hid hq
       have HMM := Lib.hid hM
       have HS1 := Lib.hid (show (okT x 0 && decide ((x.size : Int) ≤ 3000 - (sizeP (ps.take k) : Nat))) = s by rw [hmk]; exact hs)
       have HMK := Lib.hid hmk
       clear hM hbxk hmk hposk hpq hqs hs hq hxt
       cases s
       · have HX := Lib.hid (show r = false by rw [← HRES.out]; exact HMM.out.fail HQ.out HS1.out)
         go_wp2_with fail
         refine HIH.out.mono ?_
         clear HIH
         rintro e w5 ⟨rfl, hg5, m5, hbx5, _⟩
         have HB5 := Lib.hid (HB0.out.trans ((below_grown HMM.out.bel hg5 hcW).mono HB0.out.size))
         clear hg5 hbx5
         go_wp2_with fail
         go_ret
         exact ⟨ret_bool HX.out.symm, HB5.out⟩
       · go_wp2_with fail
         refine HIH.out.mono ?_
         clear HIH
         rintro e w5 ⟨rfl, hg5, m5, hbx5, hm5⟩
         have HM5 := Lib.hid (HMM.out.step (w' := w5) hcW HQ.out ⟨rfl, hg5, m5, hbx5, by rw [HMK.out]; exact hm5⟩ HS1.out)
         clear hg5 hbx5 hm5
         go_wp2_with fail
         go_roundw
         case rel => exact ⟨k + 1, by go_num, by omega, HM5.out⟩
         case measure => simp [intOf]; omega
     · have HX := Lib.hid (show r = true by rw [← HRES.out]; exact hM.all (by rw [HPN.out]; omega) (by rw [HPN.out]; omega))
       have hbf := HB0.out.trans (hM.bel.mono HB0.out.size)
       clear hM
       go_wp2_with fail
       go_ret
       exact ⟨ret_bool HX.out.symm, hbf⟩
 · have hT : r = false := by rw [← hres]; unfold mayB; rw [hn, decide_eq_false h20]; simp
   subst hT
   rw [hn] at hm ⊢
   have h20' : (20 : Int) < n := by omega
   clear hr hk hs hres hn
   go_enter Tryz.func18, Tryz.ntmps18
   go_wp2_with fail
   go_ret
   exact ⟨rfl, (Below.refl _ _).alloc (Nat.le_refl _) _⟩
end
end Go.Proofs.YtipcoglddfgopaaGreatDoor
