/- Parts of the proof: RefPp, RefS, RefT, RefU. -/
import Derived.Test.YtipcoglddfgopaaGreatDoorP1
import Derived.Deep.RegionHeld3
import Derived.Test.YtipcoglddfgopaaGreatDoorP11
import Derived.Deep.RegionWith
import Derived.Test.YtipcoglddfgopaaGreatDoorP0
import Derived.Test.YtipcoglddfgopaaGreatDoorP2
import Derived.Deep.DeepCutAuto
import Derived.Deep.QuietTactic
set_option maxHeartbeats 4000000
set_option maxRecDepth 100000
namespace Go.Proofs.YtipcoglddfgopaaGreatDoor
set_option linter.unusedSimpArgs false
set_option linter.unusedVariables false
section
open Go.RowKit
theorem Rw.get {w : World} {t : Tg} {A : Option Addr} {n cap : Nat} {l : List Nd} (h : Rw w t (.slice A n cap) l) {k : Nat} (hk : k < n) : ∃ b o x, A = Option.some ⟨b, o, none⟩ ∧ l[k]? = Option.some x ∧ x.tag = t ∧ ∀ j u, (cellsN x)[j]? = Option.some u → w.cell? ⟨b, o + k * t.sz + j, none⟩ = Option.some u := by
 obtain ⟨A', cap', hv, _, ht, hc⟩ := h
 injection hv with h1 h2 h3
 obtain ⟨b, o, hA, hcell⟩ := hc (by omega)
 have hl : k < l.length := by omega
 exact ⟨b, o, l[k], h1.trans hA, List.getElem?_eq_getElem hl, ht _ (List.getElem_mem hl), hcell k _ (List.getElem?_eq_getElem hl)⟩
theorem sizeL_take_succ {l : List Nd} {k : Nat} {x : Nd} (h : l[k]? = some x) : sizeL (l.take (k + 1)) = sizeL (l.take k) + x.size := by
 have hl := (List.getElem?_eq_some_iff.1 h)
 rw [List.take_add_one, h]
 simp [sizeL_append, sizeL]
theorem sizeL_take_le (l : List Nd) (k : Nat) : sizeL (l.take k) ≤ sizeL l := by
 have := sizeL_append (l.take k) (l.drop k)
 rw [List.take_append_drop] at this; omega
theorem KdL.mem_get {w : World} {l : List Nd} (h : KdL w l) {k : Nat} {x : Nd} (hx : l[k]? = some x) : Kd w x := KdL_mem h x (List.mem_of_getElem? hx)
end
section
open Go.RowKit
theorem sameL_head (x y : Nd) (l m : List Nd) : sameL (x :: l) (y :: m) = (sameL [x] [y] && sameL l m) := by rw [sameL_cons, sameL_one, Bool.and_assoc]
theorem sameL_drop {l l' : List Nd} {k : Nat} {x y : Nd} (h : l[k]? = some x) (h' : l'[k]? = some y) : sameL (l.drop k) (l'.drop k) = (sameL [x] [y] && sameL (l.drop (k + 1)) (l'.drop (k + 1))) := by
 obtain ⟨h1, h2⟩ := List.getElem?_eq_some_iff.1 h
 obtain ⟨h3, h4⟩ := List.getElem?_eq_some_iff.1 h'
 rw [List.drop_eq_getElem_cons h1, List.drop_eq_getElem_cons h3, h2, h4, sameL_head]
theorem same_ex (k n : Int) (tx nm ty : ByteArray) (nv : Value) (l : List Nd) (own : ByteArray) (nth : Int) (k' n' : Int) (tx' nm' ty' : ByteArray) (nv' : Value) (l' : List Nd) (own' : ByteArray) (nth' : Int) :
   sameL [.ex k n tx nm ty nv l own nth] [.ex k' n' tx' nm' ty' nv' l' own' nth'] = ((k == k') && ((n == n') && ((tx.toList == tx'.toList) && ((nm.toList == nm'.toList) && ((ty.toList == ty'.toList) && sameL l l'))))) := by
 rw [sameL_one]
 simp only [alikeB, Nd.kids]
 by_cases hl : l.length = l'.length
 · have : (l.length == l'.length) = true := by rw [beq_iff_eq]; exact hl
   rw [this]; simp only [Bool.and_true, Bool.and_assoc]
 · rw [sameL_ne _ _ hl]; simp
def ExSame (s : Nat) : Prop := ∀ (w : World) (v v' : Value) (l l' : List Nd), sizeL l ≤ s → Rw w .ex v l → KdL w l → Rw w .ex v' l' → KdL w l' → Calls Tryz.prog 45 #[v, v'] w fun e w' => e = .returned (.bool (sameL l l')) ∧ Below w.heap.size w w'
theorem ref_same_of (s : Nat) (IH : ExSame s) (w : World) (k n : Int) (tx nm ty : ByteArray) (nv : Value) (l : List Nd) (own : ByteArray) (nth : Int) (k' n' : Int) (tx' nm' ty' : ByteArray) (nv' : Value) (l' : List Nd) (own' : ByteArray) (nth' : Int)
   (hk : Kd w (.ex k n tx nm ty nv l own nth)) (hk' : Kd w (.ex k' n' tx' nm' ty' nv' l' own' nth')) (hl : sizeL l ≤ s) (r : Bool) (hr : sameL [.ex k n tx nm ty nv l own nth] [.ex k' n' tx' nm' ty' nv' l' own' nth'] = r) :
   Calls Tryz.prog 77 #[.agg #[.int .i64 k, .int .i32 n, .string tx, .string nm, .string ty, nv, .string own, .int .i64 nth], .agg #[.int .i64 k', .int .i32 n', .string tx', .string nm', .string ty', nv', .string own', .int .i64 nth']] w fun e w' => e = .returned (.bool r) ∧ Below w.heap.size w w' := by
 rw [Kd] at hk hk'
 obtain ⟨A, cap, rfl⟩ := hk.2.1.form
 obtain ⟨A', cap', rfl⟩ := hk'.2.1.form
 obtain ⟨W, hW⟩ : ∃ W, (w.alloc (.cells #[.int .i64 k, .int .i32 n, .string tx, .string nm, .string ty, .slice A l.length cap, .string own, .int .i64 nth] 42)).alloc (.cells #[.int .i64 k', .int .i32 n', .string tx', .string nm', .string ty', .slice A' l'.length cap', .string own', .int .i64 nth'] 42) = W := ⟨_, rfl⟩
 have hb : Below w.heap.size w W := by rw [← hW]; exact ((Below.refl _ w).alloc (Nat.le_refl _) _).alloc (by simp) _
 have hx : Bx W w.heap.size #[.int .i64 k, .int .i32 n, .string tx, .string nm, .string ty, .slice A l.length cap, .string own, .int .i64 nth] 42 := by rw [← hW]; exact (Bx.new _ _ _).next ((Below.refl _ _).alloc (Nat.le_refl _) _)
 have hy : Bx W (w.heap.size + 1) #[.int .i64 k', .int .i32 n', .string tx', .string nm', .string ty', .slice A' l'.length cap', .string own', .int .i64 nth'] 42 := by
   rw [← hW]
   have := Bx.new (w.alloc (.cells #[.int .i64 k, .int .i32 n, .string tx, .string nm, .string ty, .slice A l.length cap, .string own, .int .i64 nth] 42)) #[.int .i64 k', .int .i32 n', .string tx', .string nm', .string ty', .slice A' l'.length cap', .string own', .int .i64 nth'] 42
   simpa using this
 have K := Keep.below hb
 have HI := Lib.hid (IH W _ _ l l' hl (hk.2.1.keep K) (KdL.keep K _ hk.2.2) (hk'.2.1.keep K) (KdL.keep K _ hk'.2.2))
 have x0 := hx.cell 0; have x1 := hx.cell 1; have x2 := hx.cell 2; have x3 := hx.cell 3; have x4 := hx.cell 4; have x5 := hx.cell 5
 have y0 := hy.cell 0; have y1 := hy.cell 1; have y2 := hy.cell 2; have y3 := hy.cell 3; have y4 := hy.cell 4; have y5 := hy.cell 5
 simp only [List.getElem?_toArray, List.getElem?_cons_zero, List.getElem?_cons_succ] at x0 x1 x2 x3 x4 x5 y0 y1 y2 y3 y4 y5
 rw [same_ex] at hr
 obtain ⟨q, hq⟩ : ∃ q, sameL l l' = q := ⟨_, rfl⟩
 rw [hq] at HI hr
 have HB := Lib.hid hb
 obtain ⟨q0, h0⟩ : ∃ q, (k == k') = q := ⟨_, rfl⟩
 obtain ⟨q1, h1⟩ : ∃ q, (n == n') = q := ⟨_, rfl⟩
 obtain ⟨q2, h2⟩ : ∃ q, (tx.toList == tx'.toList) = q := ⟨_, rfl⟩
 obtain ⟨q3, h3⟩ : ∃ q, (nm.toList == nm'.toList) = q := ⟨_, rfl⟩
 obtain ⟨q4, h4⟩ : ∃ q, (ty.toList == ty'.toList) = q := ⟨_, rfl⟩
 rw [h0, h1, h2, h3, h4] at hr
 have HR := Lib.hid hr
 clear hk hk' K hx hy IH hq hr hb
 go_enter Tryz.func77, Tryz.ntmps77
 go_wp2_with (go_at_call 45; refine HI.out.mono ?_; clear HI; rintro e w1 ⟨rfl, hb1⟩)
 all_goals go_ret
 all_goals have hr := HR.out
 all_goals have hb := HB.out
 all_goals subst hr
 all_goals first
   | exact ⟨ret_bool (by simp only [*, Bool.true_and, Bool.false_and, Bool.not_eq_true] at *; try simp [*]), hb.trans (hb1.mono hb.size)⟩
   | exact ⟨ret_bool (by simp [*]), hb⟩
theorem ref_sames_any : ∀ s, s ≤ 1000000 → ExSame s := by
 intro s
 induction s using Nat.strongRecOn with
 | ind s ih =>
   intro hs w v v' l l' hl hr hk hr' hk'
   obtain ⟨A, cap, rfl⟩ := hr.form
   obtain ⟨A', cap', rfl⟩ := hr'.form
   have hlen : l.length ≤ 1000000 := by have := len_sizeL l; omega
   have hlen' : l'.length ≤ maxLen := by obtain ⟨_, _, _, h, _⟩ := hr'; exact h.1
   unfold maxLen at hlen'
   obtain ⟨q, hq⟩ : ∃ q, sameL l l' = q := ⟨_, rfl⟩
   rw [hq]
   by_cases hne : l.length = l'.length
   · obtain ⟨n, hn⟩ : ∃ n, l.length = n := ⟨_, rfl⟩
     have hn' : l'.length = n := hne ▸ hn
     rw [hn] at hr hlen ⊢
     rw [hn'] at hr' ⊢
     have HR := Lib.hid hr; have HK := Lib.hid hk; have HR' := Lib.hid hr'; have HK' := Lib.hid hk'
     have HLN := Lib.hid hn; have HLN' := Lib.hid hn'
     have HS0 := Lib.hid (show sameL (l.drop 0) (l'.drop 0) = q by simpa using hq)
     have HL := Lib.hid hl
     clear hr hk hr' hk' hn hn' hne hq hlen' hl
     go_enter Tryz.func45, Tryz.ntmps45
     go_wp2
     go_loopw [5] (fun v5 wr => ∃ k : Nat, v5 = .int .i64 k ∧ k ≤ n ∧ sameL (l.drop k) (l'.drop k) = q ∧ Below w.heap.size w wr) (fun v5 wr => n - (intOf v5).toNat)
     case atStart => exact ⟨0, rfl, Nat.zero_le _, HS0.out, Below.refl _ _⟩
     case round =>
       obtain ⟨k, rfl, hkn, hsk, hB⟩ := hrel
       clear HS0
       by_cases hlt : k < n
       · have K := Keep.below hB
         obtain ⟨b, o, x, rfl, hx, hxt, hc⟩ := (HR.out.keep K).get hlt
         obtain ⟨b', o', y, rfl, hy, hyt, hc'⟩ := (HR'.out.keep K).get hlt
         have hxk := KdL.mem_get (KdL.keep K _ HK.out) hx
         have hyk := KdL.mem_get (KdL.keep K _ HK'.out) hy
         rw [sameL_drop hx hy] at hsk
         have hxs : x.size ≤ s := Nat.le_trans (size_mem (List.mem_of_getElem? hx)) HL.out
         cases x <;> first | (simp [Nd.tag] at hxt; done) | skip
         rename_i xk xn xtx xnm xty xv xl xown xnth
         cases y <;> first | (simp [Nd.tag] at hyt; done) | skip
         rename_i yk yn ytx ynm yty yv yl yown ynth
         obtain ⟨t, ht⟩ : ∃ t, sameL [.ex xk xn xtx xnm xty xv xl xown xnth] [.ex yk yn ytx ynm yty yv yl yown ynth] = t := ⟨_, rfl⟩
         rw [ht] at hsk
         have hsz : (Nd.ex xk xn xtx xnm xty xv xl xown xnth).size = 1 + sizeL xl := by simp [Nd.size]
         have hb0 : Below wr.heap.size wr wr.drew := (Below.refl _ wr).drew
         have HX := Lib.hid (ref_same_of (s - 1) (ih (s - 1) (by omega) (by omega)) wr.drew xk xn xtx xnm xty xv xl xown xnth yk yn ytx ynm yty yv yl yown ynth (Kd.keep (Keep.below hb0) _ hxk) (Kd.keep (Keep.below hb0) _ hyk) (by omega) t ht)
         have x0 := hc 0 _ rfl; have x1 := hc 1 _ rfl; have x2 := hc 2 _ rfl; have x3 := hc 3 _ rfl; have x4 := hc 4 _ rfl; have x5 := hc 5 _ rfl; have x6 := hc 6 _ rfl; have x7 := hc 7 _ rfl
         have y0 := hc' 0 _ rfl; have y1 := hc' 1 _ rfl; have y2 := hc' 2 _ rfl; have y3 := hc' 3 _ rfl; have y4 := hc' 4 _ rfl; have y5 := hc' 5 _ rfl; have y6 := hc' 6 _ rfl; have y7 := hc' 7 _ rfl
         simp only [Tg.sz, Nat.add_zero] at x0 x1 x2 x3 x4 x5 x6 x7 y0 y1 y2 y3 y4 y5 y6 y7
         obtain ⟨xA, xcap, rfl⟩ := (by rw [Kd] at hxk; exact hxk.2.1.form : ∃ A cap, xv = .slice A xl.length cap)
         obtain ⟨yA, ycap, rfl⟩ := (by rw [Kd] at hyk; exact hyk.2.1.form : ∃ A cap, yv = .slice A yl.length cap)
         have HB := Lib.hid hB
         have HSK := Lib.hid hsk
         have hi0 : (0 : Int) ≤ (k : Int) := by omega
         have hi1 : (k : Int) < (n : Int) := by omega
         clear hc hc' hxk hyk hx hy ht hsz hxt hyt K hB hxs hsk ih
         go_wp2_with fail
         go_region_with (go_at_call 77; refine HX.out.mono ?_; clear HX; rintro e w1 ⟨rfl, hb⟩)
         all_goals
           have hB1 := (HB.out.drew).trans (hb.mono HB.out.size)
           have h2 := HSK.out
           clear hb
           cases t
           · go_wp2_with fail
             go_ret
             exact ⟨ret_bool (by rw [← h2]; simp), hB1⟩
           · go_wp2_with fail
             go_roundw
             case rel => exact ⟨k + 1, by go_num, by omega, by rw [← h2]; simp, hB1⟩
             case measure => simp [intOf]; omega
       · rw [List.drop_eq_nil_of_le (by rw [HLN.out]; omega), List.drop_eq_nil_of_le (by rw [HLN'.out]; omega), sameL_nil] at hsk
         clear ih
         go_wp2
         go_ret
         exact ⟨ret_bool hsk, hB⟩
   · have hf : q = false := by rw [← hq]; exact sameL_ne _ _ hne
     have hne2 : ((l.length : Int) != (l'.length : Int)) = true := by simp; omega
     clear hr hk hr' hk' hl hq ih
     go_enter Tryz.func45, Tryz.ntmps45
     go_wp2
     go_ret
     exact ⟨ret_bool hf.symm, Below.refl _ _⟩
end
section
open Go.RowKit
theorem same_st (k n : Int) (ty nm : ByteArray) (ve va vb vc : Value) (e a b c : List Nd) (nth : Int) (k' n' : Int) (ty' nm' : ByteArray) (ve' va' vb' vc' : Value) (e' a' b' c' : List Nd) (nth' : Int) :
   sameL [.st k n ty nm ve va vb vc e a b c nth] [.st k' n' ty' nm' ve' va' vb' vc' e' a' b' c' nth'] = ((k == k') && ((n == n') && ((ty.toList == ty'.toList) && ((nm.toList == nm'.toList) && (sameL e e' && (sameL a a' && (sameL b b' && sameL c c'))))))) := by
 rw [sameL_one]
 simp only [alikeB, Nd.kids]
 by_cases h1 : e.length = e'.length
 · by_cases h2 : a.length = a'.length
   · by_cases h3 : b.length = b'.length
     · by_cases h4 : c.length = c'.length
       · rw [sameL_append (e ++ a ++ b) (e' ++ a' ++ b') c c' (by simp; omega), sameL_append (e ++ a) (e' ++ a') b b' (by simp; omega), sameL_append e e' a a' h1, beq_iff_eq.2 h1, beq_iff_eq.2 h2, beq_iff_eq.2 h3, beq_iff_eq.2 h4]
         simp only [Bool.and_true, Bool.and_assoc]
       · rw [sameL_ne c c' h4, beq_eq_false_iff_ne.2 h4]; simp
     · rw [sameL_ne b b' h3, beq_eq_false_iff_ne.2 h3]; simp
   · rw [sameL_ne a a' h2, beq_eq_false_iff_ne.2 h2]; simp
 · rw [sameL_ne e e' h1, beq_eq_false_iff_ne.2 h1]; simp
theorem below_cells {B : Nat} {a w : World} (h : Below B a w) {b : Nat} (hb : B ≤ b) (us : List Value) (o : Nat) : Below B a (w.setCells b o us) := by
 induction us generalizing o w with
 | nil => exact h
 | cons u us ih => rw [World.setCells]; exact ih (h.setCell hb u) (o + 1)
theorem bx_up {w : World} {b : Nat} {cs : Array Value} {T : TypeId} (h : Bx w b cs T) (o : Obj) : Bx (w.alloc o) b cs T := h.next ((Below.refl _ _).alloc (Nat.le_refl _) _)
theorem bx_at {w : World} {b : Nat} {cs : Array Value} {T : TypeId} (hb : b = w.heap.size) : Bx (w.alloc (.cells cs T)) b cs T := by subst hb; exact Bx.new _ _ _
def StSame (s : Nat) : Prop := ∀ (w : World) (v v' : Value) (l l' : List Nd), sizeL l ≤ s → Rw w .st v l → KdL w l → Rw w .st v' l' → KdL w l' → Calls Tryz.prog 46 #[v, v'] w fun e w' => e = .returned (.bool (sameL l l')) ∧ Below w.heap.size w w'
theorem ref_same_stmts_any : ∀ s, s ≤ 1000000 → StSame s := by
 intro s
 induction s using Nat.strongRecOn with
 | ind s ih =>
   intro hs w v v' l l' hl hr hk hr' hk'
   obtain ⟨A, cap, rfl⟩ := hr.form
   obtain ⟨A', cap', rfl⟩ := hr'.form
   have hlen : l.length ≤ 1000000 := by have := len_sizeL l; omega
   have hlen' : l'.length ≤ maxLen := by obtain ⟨_, _, _, h, _⟩ := hr'; exact h.1
   unfold maxLen at hlen'
   obtain ⟨q, hq⟩ : ∃ q, sameL l l' = q := ⟨_, rfl⟩
   rw [hq]
   by_cases hne : l.length = l'.length
   · obtain ⟨n, hn⟩ : ∃ n, l.length = n := ⟨_, rfl⟩
     have hn' : l'.length = n := hne ▸ hn
     rw [hn] at hr hlen ⊢
     rw [hn'] at hr' ⊢
     have HR := Lib.hid hr; have HK := Lib.hid hk; have HR' := Lib.hid hr'; have HK' := Lib.hid hk'
     have HLN := Lib.hid hn; have HLN' := Lib.hid hn'
     have HS0 := Lib.hid (show sameL (l.drop 0) (l'.drop 0) = q by simpa using hq)
     have HL := Lib.hid hl
     clear hr hk hr' hk' hn hn' hne hq hlen' hl
     go_enter Tryz.func46, Tryz.ntmps46
     go_wp2
     go_loopw [5] (fun v5 wr => ∃ k : Nat, v5 = .int .i64 k ∧ k ≤ n ∧ sameL (l.drop k) (l'.drop k) = q ∧ Below w.heap.size w wr) (fun v5 wr => n - (intOf v5).toNat)
     case atStart => exact ⟨0, rfl, Nat.zero_le _, HS0.out, Below.refl _ _⟩
     case round =>
       obtain ⟨k, rfl, hkn, hsk, hB⟩ := hrel
       clear HS0
       by_cases hlt : k < n
       · have K := Keep.below hB
         obtain ⟨b, o, x, rfl, hx, hxt, hc⟩ := (HR.out.keep K).get hlt
         obtain ⟨b', o', y, rfl, hy, hyt, hc'⟩ := (HR'.out.keep K).get hlt
         have hxk := KdL.mem_get (KdL.keep K _ HK.out) hx
         have hyk := KdL.mem_get (KdL.keep K _ HK'.out) hy
         rw [sameL_drop hx hy] at hsk
         have hxs : x.size ≤ s := Nat.le_trans (size_mem (List.mem_of_getElem? hx)) HL.out
         cases x <;> first | (simp [Nd.tag] at hxt; done) | skip
         rename_i xk xn xty xnm xve xva xvb xvc xe xa xb xc xnth
         cases y <;> first | (simp [Nd.tag] at hyt; done) | skip
         rename_i yk yn yty ynm yve yva yvb yvc ye ya yb yc ynth
         rw [same_st] at hsk
         rw [Kd] at hxk hyk
         have hsz : (Nd.st xk xn xty xnm xve xva xvb xvc xe xa xb xc xnth).size = 1 + (sizeL xe + sizeL xa + sizeL xb + sizeL xc) := by simp [Nd.size]
         have HE : Hid (∀ w', Below wr.heap.size wr w' → Calls Tryz.prog 45 #[xve, yve] w' fun r w'' => r = .returned (.bool (sameL xe ye)) ∧ Below w'.heap.size w' w'') := by
           show ∀ w', _
           intro w' hb; have K := Keep.below hb
           exact ref_sames_any (sizeL xe) (by omega) w' xve yve xe ye (Nat.le_refl _) (hxk.2.1.1.keep K) (KdL.keep K _ hxk.2.1.2) (hyk.2.1.1.keep K) (KdL.keep K _ hyk.2.1.2)
         have HA : Hid (∀ w', Below wr.heap.size wr w' → Calls Tryz.prog 46 #[xva, yva] w' fun r w'' => r = .returned (.bool (sameL xa ya)) ∧ Below w'.heap.size w' w'') := by
           show ∀ w', _
           intro w' hb; have K := Keep.below hb
           exact ih (sizeL xa) (by omega) (by omega) w' xva yva xa ya (Nat.le_refl _) (hxk.2.2.1.1.keep K) (KdL.keep K _ hxk.2.2.1.2) (hyk.2.2.1.1.keep K) (KdL.keep K _ hyk.2.2.1.2)
         have HBb : Hid (∀ w', Below wr.heap.size wr w' → Calls Tryz.prog 46 #[xvb, yvb] w' fun r w'' => r = .returned (.bool (sameL xb yb)) ∧ Below w'.heap.size w' w'') := by
           show ∀ w', _
           intro w' hb; have K := Keep.below hb
           exact ih (sizeL xb) (by omega) (by omega) w' xvb yvb xb yb (Nat.le_refl _) (hxk.2.2.2.1.1.keep K) (KdL.keep K _ hxk.2.2.2.1.2) (hyk.2.2.2.1.1.keep K) (KdL.keep K _ hyk.2.2.2.1.2)
         have HC : Hid (∀ w', Below wr.heap.size wr w' → Calls Tryz.prog 46 #[xvc, yvc] w' fun r w'' => r = .returned (.bool (sameL xc yc)) ∧ Below w'.heap.size w' w'') := by
           show ∀ w', _
           intro w' hb; have K := Keep.below hb
           exact ih (sizeL xc) (by omega) (by omega) w' xvc yvc xc yc (Nat.le_refl _) (hxk.2.2.2.2.1.keep K) (KdL.keep K _ hxk.2.2.2.2.2) (hyk.2.2.2.2.1.keep K) (KdL.keep K _ hyk.2.2.2.2.2)
         have x0 := hc 0 _ rfl; have x1 := hc 1 _ rfl; have x2 := hc 2 _ rfl; have x3 := hc 3 _ rfl; have x4 := hc 4 _ rfl; have x5 := hc 5 _ rfl; have x6 := hc 6 _ rfl; have x7 := hc 7 _ rfl; have x8 := hc 8 _ rfl
         have y0 := hc' 0 _ rfl; have y1 := hc' 1 _ rfl; have y2 := hc' 2 _ rfl; have y3 := hc' 3 _ rfl; have y4 := hc' 4 _ rfl; have y5 := hc' 5 _ rfl; have y6 := hc' 6 _ rfl; have y7 := hc' 7 _ rfl; have y8 := hc' 8 _ rfl
         simp only [Tg.sz, Nat.add_zero] at x0 x1 x2 x3 x4 x5 x6 x7 x8 y0 y1 y2 y3 y4 y5 y6 y7 y8
         obtain ⟨q0, h0⟩ : ∃ q, (xk == yk) = q := ⟨_, rfl⟩
         obtain ⟨q1, h1⟩ : ∃ q, (xn == yn) = q := ⟨_, rfl⟩
         obtain ⟨q2, h2⟩ : ∃ q, (xty.toList == yty.toList) = q := ⟨_, rfl⟩
         obtain ⟨q3, h3⟩ : ∃ q, (xnm.toList == ynm.toList) = q := ⟨_, rfl⟩
         obtain ⟨q4, h4⟩ : ∃ q, sameL xe ye = q := ⟨_, rfl⟩
         obtain ⟨q5, h5⟩ : ∃ q, sameL xa ya = q := ⟨_, rfl⟩
         obtain ⟨q6, h6⟩ : ∃ q, sameL xb yb = q := ⟨_, rfl⟩
         obtain ⟨q7, h7⟩ : ∃ q, sameL xc yc = q := ⟨_, rfl⟩
         rw [h0, h1, h2, h3, h4, h5, h6, h7] at hsk
         rw [h4] at HE; rw [h5] at HA; rw [h6] at HBb; rw [h7] at HC
         obtain ⟨A1, n1, rfl⟩ := hxk.2.1.1.form
         obtain ⟨A2, n2, rfl⟩ := hxk.2.2.1.1.form
         obtain ⟨A3, n3, rfl⟩ := hxk.2.2.2.1.1.form
         obtain ⟨A4, n4, rfl⟩ := hxk.2.2.2.2.1.form
         obtain ⟨B1, m1, rfl⟩ := hyk.2.1.1.form
         obtain ⟨B2, m2, rfl⟩ := hyk.2.2.1.1.form
         obtain ⟨B3, m3, rfl⟩ := hyk.2.2.2.1.1.form
         obtain ⟨B4, m4, rfl⟩ := hyk.2.2.2.2.1.form
         have HB := Lib.hid hB
         have HSK := Lib.hid hsk
         have hi0 : (0 : Int) ≤ (k : Int) := by omega
         have hi1 : (k : Int) < (n : Int) := by omega
         clear hc hc' hxk hyk hx hy hsz hxt hyt K hB hxs hsk ih h4 h5 h6 h7
         have HS : Hid (∀ w', Below wr.heap.size wr w' → w'.cell? ⟨b, o + k * 9, none⟩ = some (.int .i64 xk) ∧ w'.cell? ⟨b, o + k * 9 + 1, none⟩ = some (.int .i32 xn) ∧ w'.cell? ⟨b, o + k * 9 + 2, none⟩ = some (.string xty) ∧ w'.cell? ⟨b, o + k * 9 + 3, none⟩ = some (.string xnm) ∧ w'.cell? ⟨b, o + k * 9 + 4, none⟩ = some (.slice A1 xe.length n1) ∧ w'.cell? ⟨b, o + k * 9 + 5, none⟩ = some (.slice A2 xa.length n2) ∧ w'.cell? ⟨b, o + k * 9 + 6, none⟩ = some (.slice A3 xb.length n3) ∧ w'.cell? ⟨b, o + k * 9 + 7, none⟩ = some (.slice A4 xc.length n4) ∧ w'.cell? ⟨b, o + k * 9 + 8, none⟩ = some (.int .i64 xnth) ∧ w'.cell? ⟨b', o' + k * 9, none⟩ = some (.int .i64 yk) ∧ w'.cell? ⟨b', o' + k * 9 + 1, none⟩ = some (.int .i32 yn) ∧ w'.cell? ⟨b', o' + k * 9 + 2, none⟩ = some (.string yty) ∧ w'.cell? ⟨b', o' + k * 9 + 3, none⟩ = some (.string ynm) ∧ w'.cell? ⟨b', o' + k * 9 + 4, none⟩ = some (.slice B1 ye.length m1) ∧ w'.cell? ⟨b', o' + k * 9 + 5, none⟩ = some (.slice B2 ya.length m2) ∧ w'.cell? ⟨b', o' + k * 9 + 6, none⟩ = some (.slice B3 yb.length m3) ∧ w'.cell? ⟨b', o' + k * 9 + 7, none⟩ = some (.slice B4 yc.length m4) ∧ w'.cell? ⟨b', o' + k * 9 + 8, none⟩ = some (.int .i64 ynth)) := by
           show ∀ w', _
           intro w' hb
           have K := Keep.below hb
           exact ⟨K _ _ x0, K _ _ x1, K _ _ x2, K _ _ x3, K _ _ x4, K _ _ x5, K _ _ x6, K _ _ x7, K _ _ x8, K _ _ y0, K _ _ y1, K _ _ y2, K _ _ y3, K _ _ y4, K _ _ y5, K _ _ y6, K _ _ y7, K _ _ y8⟩
         clear x0 x1 x2 x3 x4 x5 x6 x7 x8 y0 y1 y2 y3 y4 y5 y6 y7 y8
         go_wp2_with fail
         go_region_held3 (fun w' => w'.cell? ⟨b, o + k * 9, none⟩ = some (.int .i64 xk) ∧ w'.cell? ⟨b, o + k * 9 + 1, none⟩ = some (.int .i32 xn) ∧ w'.cell? ⟨b, o + k * 9 + 2, none⟩ = some (.string xty) ∧ w'.cell? ⟨b, o + k * 9 + 3, none⟩ = some (.string xnm) ∧ w'.cell? ⟨b, o + k * 9 + 4, none⟩ = some (.slice A1 xe.length n1) ∧ w'.cell? ⟨b, o + k * 9 + 5, none⟩ = some (.slice A2 xa.length n2) ∧ w'.cell? ⟨b, o + k * 9 + 6, none⟩ = some (.slice A3 xb.length n3) ∧ w'.cell? ⟨b, o + k * 9 + 7, none⟩ = some (.slice A4 xc.length n4) ∧ w'.cell? ⟨b, o + k * 9 + 8, none⟩ = some (.int .i64 xnth) ∧ w'.cell? ⟨b', o' + k * 9, none⟩ = some (.int .i64 yk) ∧ w'.cell? ⟨b', o' + k * 9 + 1, none⟩ = some (.int .i32 yn) ∧ w'.cell? ⟨b', o' + k * 9 + 2, none⟩ = some (.string yty) ∧ w'.cell? ⟨b', o' + k * 9 + 3, none⟩ = some (.string ynm) ∧ w'.cell? ⟨b', o' + k * 9 + 4, none⟩ = some (.slice B1 ye.length m1) ∧ w'.cell? ⟨b', o' + k * 9 + 5, none⟩ = some (.slice B2 ya.length m2) ∧ w'.cell? ⟨b', o' + k * 9 + 6, none⟩ = some (.slice B3 yb.length m3) ∧ w'.cell? ⟨b', o' + k * 9 + 7, none⟩ = some (.slice B4 yc.length m4) ∧ w'.cell? ⟨b', o' + k * 9 + 8, none⟩ = some (.int .i64 ynth))
           (with_reducible refine HS.out _ ?_; repeat (first | with_reducible exact Below.refl _ _ | with_reducible refine Below.drew ?_ | with_reducible refine Below.alloc ?_ (by simp; try omega) _ | with_reducible refine below_cells ?_ (by simp) _ _ | with_reducible refine Below.setCell ?_ (by simp) _))
           (fail)
         all_goals (rename_i hHeld; clear hHeld HS)
         all_goals first
           | (obtain ⟨W, hW⟩ : ∃ W, ((wr.alloc (.cells #[.int .i64 xk, .int .i32 xn, .string xty, .string xnm, .slice A1 xe.length n1, .slice A2 xa.length n2, .slice A3 xb.length n3, .slice A4 xc.length n4, .int .i64 xnth] 144)).alloc (.cells #[.int .i64 yk, .int .i32 yn, .string yty, .string ynm, .slice B1 ye.length m1, .slice B2 ya.length m2, .slice B3 yb.length m3, .slice B4 yc.length m4, .int .i64 ynth] 144)).drew = W := ⟨_, rfl⟩
              rw [hW]
              have hF : Below wr.heap.size wr W ∧ Bx W wr.heap.size #[.int .i64 xk, .int .i32 xn, .string xty, .string xnm, .slice A1 xe.length n1, .slice A2 xa.length n2, .slice A3 xb.length n3, .slice A4 xc.length n4, .int .i64 xnth] 144 ∧ Bx W (wr.heap.size + 1) #[.int .i64 yk, .int .i32 yn, .string yty, .string ynm, .slice B1 ye.length m1, .slice B2 ya.length m2, .slice B3 yb.length m3, .slice B4 yc.length m4, .int .i64 ynth] 144 := by
                rw [← hW]; exact ⟨((((Below.refl _ wr).alloc (Nat.le_refl _) _).alloc (by simp) _).drew), bx_up (Bx.new _ _ _) _, bx_at (by simp)⟩)
           | (obtain ⟨W, hW⟩ : ∃ W, ((wr.alloc (.cells #[.int .i64 yk, .int .i32 yn, .string yty, .string ynm, .slice B1 ye.length m1, .slice B2 ya.length m2, .slice B3 yb.length m3, .slice B4 yc.length m4, .int .i64 ynth] 144)).alloc (.cells #[.int .i64 xk, .int .i32 xn, .string xty, .string xnm, .slice A1 xe.length n1, .slice A2 xa.length n2, .slice A3 xb.length n3, .slice A4 xc.length n4, .int .i64 xnth] 144)).drew = W := ⟨_, rfl⟩
              rw [hW]
              have hF : Below wr.heap.size wr W ∧ Bx W (wr.heap.size + 1) #[.int .i64 xk, .int .i32 xn, .string xty, .string xnm, .slice A1 xe.length n1, .slice A2 xa.length n2, .slice A3 xb.length n3, .slice A4 xc.length n4, .int .i64 xnth] 144 ∧ Bx W wr.heap.size #[.int .i64 yk, .int .i32 yn, .string yty, .string ynm, .slice B1 ye.length m1, .slice B2 ya.length m2, .slice B3 yb.length m3, .slice B4 yc.length m4, .int .i64 ynth] 144 := by
                rw [← hW]; exact ⟨((((Below.refl _ wr).alloc (Nat.le_refl _) _).alloc (by simp) _).drew), bx_at (by simp), bx_up (Bx.new _ _ _) _⟩)
         all_goals
           clear hW
           obtain ⟨hbw, hx, hy⟩ := hF
           obtain ⟨x0, x1, x2, x3, x4, x5, x6, x7, _⟩ := hx.get_9
           obtain ⟨y0, y1, y2, y3, y4, y5, y6, y7, _⟩ := hy.get_9
           have HS2 : Hid (∀ w', Below W.heap.size W w' → _) := fun w' hb => And.intro (hx.next hb) (hy.next hb)
           subst h0 h1
           clear hx hy
           go_wp2_with (first
             | (go_at_call 45; refine (HE.out _ hbw).mono ?_; rintro r w1 ⟨rfl, hd1⟩; have hb1 := hbw.trans (hd1.mono hbw.size); obtain ⟨hx1, hy1⟩ := HS2.out _ hd1; obtain ⟨_, _, _, _, _, x5, x6, x7, _⟩ := hx1.get_9; obtain ⟨_, _, _, _, _, y5, y6, y7, _⟩ := hy1.get_9; clear hx1 hy1)
             | (go_at_call_of 46 (Value.slice A2 xa.length n2); refine (HA.out _ hb1).mono ?_; rintro r w2 ⟨rfl, hc2⟩; have hb2 := hb1.trans (hc2.mono hb1.size); have hd2 := hd1.trans (hc2.mono hd1.size); clear hc2; obtain ⟨hx2, hy2⟩ := HS2.out _ hd2; obtain ⟨_, _, _, _, _, _, x6, x7, _⟩ := hx2.get_9; obtain ⟨_, _, _, _, _, _, y6, y7, _⟩ := hy2.get_9; clear hx2 hy2)
             | (go_at_call_of 46 (Value.slice A3 xb.length n3); refine (HBb.out _ hb2).mono ?_; rintro r w3 ⟨rfl, hc3⟩; have hb3 := hb2.trans (hc3.mono hb2.size); have hd3 := hd2.trans (hc3.mono hd2.size); clear hc3; obtain ⟨hx3, hy3⟩ := HS2.out _ hd3; obtain ⟨_, _, _, _, _, _, _, x7, _⟩ := hx3.get_9; obtain ⟨_, _, _, _, _, _, _, y7, _⟩ := hy3.get_9; clear hx3 hy3)
             | (go_at_call_of 46 (Value.slice A4 xc.length n4); refine (HC.out _ hb3).mono ?_; rintro r w4 ⟨rfl, hc4⟩; have hb4 := hb3.trans (hc4.mono hb3.size); clear hc4))
         all_goals have hsk2 := HSK.out
         all_goals first
           | (go_roundw
              case rel => exact ⟨k + 1, by go_num, by omega, by rw [← hsk2]; clear hsk2; cases q7 <;> simp_all, HB.out.trans (hb4.mono HB.out.size)⟩
              case measure => simp [intOf]; omega)
           | (go_ret
              first
                | exact ⟨ret_bool (by rw [← hsk2]; clear hsk2; first | (simp [*]; done) | (cases q7 <;> simp_all)), HB.out.trans (hb4.mono HB.out.size)⟩
                | exact ⟨ret_bool (by rw [← hsk2]; clear hsk2; first | (simp [*]; done) | (cases q7 <;> simp_all)), HB.out.trans (hb3.mono HB.out.size)⟩
                | exact ⟨ret_bool (by rw [← hsk2]; clear hsk2; first | (simp [*]; done) | (cases q7 <;> simp_all)), HB.out.trans (hb2.mono HB.out.size)⟩
                | exact ⟨ret_bool (by rw [← hsk2]; clear hsk2; first | (simp [*]; done) | (cases q7 <;> simp_all)), HB.out.trans (hb1.mono HB.out.size)⟩
                | exact ⟨ret_bool (by rw [← hsk2]; clear hsk2; first | (simp [*]; done) | (cases q7 <;> simp_all)), HB.out.trans (hbw.mono HB.out.size)⟩)
       · rw [List.drop_eq_nil_of_le (by rw [HLN.out]; omega), List.drop_eq_nil_of_le (by rw [HLN'.out]; omega), sameL_nil] at hsk
         clear ih
         go_wp2
         go_ret
         exact ⟨ret_bool hsk, hB⟩
   · have hf : q = false := by rw [← hq]; exact sameL_ne _ _ hne
     have hne2 : ((l.length : Int) != (l'.length : Int)) = true := by simp; omega
     clear hr hk hr' hk' hl hq ih
     go_enter Tryz.func46, Tryz.ntmps46
     go_wp2
     go_ret
     exact ⟨ret_bool hf.symm, Below.refl _ _⟩
end
section
open Go.RowKit
theorem same_fd (s : Bool) (ty nm : ByteArray) (v : Value) (l : List Nd) (s' : Bool) (ty' nm' : ByteArray) (v' : Value) (l' : List Nd) :
   sameL [.fd s ty nm v l] [.fd s' ty' nm' v' l'] = ((s == s') && ((ty.toList == ty'.toList) && ((nm.toList == nm'.toList) && sameL l l'))) := by
 rw [sameL_one]
 simp only [alikeB, Nd.kids]
 by_cases hl : l.length = l'.length
 · rw [beq_iff_eq.2 hl]; simp only [Bool.and_true, Bool.and_assoc]
 · rw [sameL_ne _ _ hl]; simp
theorem same_mt (s c : Bool) (ty nm : ByteArray) (vp : Value) (ps : List Prm) (v : Value) (l : List Nd) (s' c' : Bool) (ty' nm' : ByteArray) (vp' : Value) (ps' : List Prm) (v' : Value) (l' : List Nd) :
   sameL [.mt s c ty nm vp ps v l] [.mt s' c' ty' nm' vp' ps' v' l'] = ((s == s') && ((c == c') && ((ty.toList == ty'.toList) && ((nm.toList == nm'.toList) && (psB ps ps' && sameL l l'))))) := by
 rw [sameL_one]
 simp only [alikeB, Nd.kids]
 by_cases hl : l.length = l'.length
 · rw [beq_iff_eq.2 hl]; simp only [Bool.and_true, Bool.and_assoc]
 · rw [sameL_ne _ _ hl]; simp
theorem same_cl (nm sp : ByteArray) (vf vm : Value) (f m : List Nd) (nm' sp' : ByteArray) (vf' vm' : Value) (f' m' : List Nd) :
   sameL [.cl nm sp vf vm f m] [.cl nm' sp' vf' vm' f' m'] = ((nm.toList == nm'.toList) && ((sp.toList == sp'.toList) && (sameL f f' && sameL m m'))) := by
 rw [sameL_one]
 simp only [alikeB, Nd.kids]
 by_cases hl : f.length = f'.length
 · by_cases hm : m.length = m'.length
   · rw [sameL_append f f' m m' hl, beq_iff_eq.2 hl, beq_iff_eq.2 hm]; simp only [Bool.and_true, Bool.and_assoc]
   · rw [sameL_ne _ _ hm, beq_eq_false_iff_ne.2 hm]; simp
 · rw [sameL_ne _ _ hl, beq_eq_false_iff_ne.2 hl]; simp
theorem ref_same_fd (w : World) (s : Bool) (ty nm : ByteArray) (v : Value) (l : List Nd) (s' : Bool) (ty' nm' : ByteArray) (v' : Value) (l' : List Nd) (hk : Kd w (.fd s ty nm v l)) (hk' : Kd w (.fd s' ty' nm' v' l')) (hl : sizeL l ≤ 1000000) (r : Bool) (hr : sameL [.fd s ty nm v l] [.fd s' ty' nm' v' l'] = r) :
   Calls Tryz.prog 28 #[.agg #[.bool s, .string ty, .string nm, v], .agg #[.bool s', .string ty', .string nm', v']] w fun e w' => e = .returned (.bool r) ∧ Below w.heap.size w w' := by
 rw [Kd] at hk hk'
 obtain ⟨A, cap, rfl⟩ := hk.2.1.form
 obtain ⟨A', cap', rfl⟩ := hk'.2.1.form
 obtain ⟨W, hW⟩ : ∃ W, (w.alloc (.cells #[.bool s, .string ty, .string nm, .slice A l.length cap] 83)).alloc (.cells #[.bool s', .string ty', .string nm', .slice A' l'.length cap'] 83) = W := ⟨_, rfl⟩
 have hb : Below w.heap.size w W := by rw [← hW]; exact ((Below.refl _ w).alloc (Nat.le_refl _) _).alloc (by simp) _
 have hx : Bx W w.heap.size #[.bool s, .string ty, .string nm, .slice A l.length cap] 83 := by rw [← hW]; exact (Bx.new _ _ _).next ((Below.refl _ _).alloc (Nat.le_refl _) _)
 have hy : Bx W (w.heap.size + 1) #[.bool s', .string ty', .string nm', .slice A' l'.length cap'] 83 := by
   rw [← hW]
   have := Bx.new (w.alloc (.cells #[.bool s, .string ty, .string nm, .slice A l.length cap] 83)) #[.bool s', .string ty', .string nm', .slice A' l'.length cap'] 83
   simpa using this
 have K := Keep.below hb
 have HI := Lib.hid (ref_sames_any (sizeL l) hl W _ _ l l' (Nat.le_refl _) (hk.2.1.keep K) (KdL.keep K _ hk.2.2) (hk'.2.1.keep K) (KdL.keep K _ hk'.2.2))
 obtain ⟨x0, x1, x2, x3⟩ := hx.get_4
 obtain ⟨y0, y1, y2, y3⟩ := hy.get_4
 rw [same_fd] at hr
 obtain ⟨q, hq⟩ : ∃ q, sameL l l' = q := ⟨_, rfl⟩
 rw [hq] at HI hr
 have HB := Lib.hid hb
 obtain ⟨q0, h0⟩ : ∃ q, (s == s') = q := ⟨_, rfl⟩
 obtain ⟨q1, h1⟩ : ∃ q, (ty.toList == ty'.toList) = q := ⟨_, rfl⟩
 obtain ⟨q2, h2⟩ : ∃ q, (nm.toList == nm'.toList) = q := ⟨_, rfl⟩
 rw [h0, h1, h2] at hr
 have HR := Lib.hid hr
 clear hk hk' K hx hy hq hr hb
 go_enter Tryz.func28, Tryz.ntmps28
 go_wp2_with (go_at_call 45; refine HI.out.mono ?_; clear HI; rintro e w1 ⟨rfl, hb1⟩)
 all_goals go_ret
 all_goals have hr := HR.out
 all_goals have hb := HB.out
 all_goals subst hr
 all_goals first
   | exact ⟨ret_bool (by simp_all), hb.trans (hb1.mono hb.size)⟩
   | exact ⟨ret_bool (by simp_all), hb⟩
theorem ref_same_mt (w : World) (s c : Bool) (ty nm : ByteArray) (vp : Value) (ps : List Prm) (v : Value) (l : List Nd) (s' c' : Bool) (ty' nm' : ByteArray) (vp' : Value) (ps' : List Prm) (v' : Value) (l' : List Nd) (hk : Kd w (.mt s c ty nm vp ps v l)) (hk' : Kd w (.mt s' c' ty' nm' vp' ps' v' l')) (hl : sizeL l ≤ 1000000) (r : Bool) (hr : sameL [.mt s c ty nm vp ps v l] [.mt s' c' ty' nm' vp' ps' v' l'] = r) :
   Calls Tryz.prog 29 #[.agg #[.bool s, .bool c, .string ty, .string nm, vp, v], .agg #[.bool s', .bool c', .string ty', .string nm', vp', v']] w fun e w' => e = .returned (.bool r) ∧ Below w.heap.size w w' := by
 rw [Kd] at hk hk'
 obtain ⟨A, cap, rfl, hpm⟩ := hk.2.1.form
 obtain ⟨A', cap', rfl, hpm'⟩ := hk'.2.1.form
 obtain ⟨B, bap, rfl⟩ := hk.2.2.1.form
 obtain ⟨B', bap', rfl⟩ := hk'.2.2.1.form
 unfold maxLen at hpm hpm'
 obtain ⟨W, hW⟩ : ∃ W, (w.alloc (.cells #[.bool s, .bool c, .string ty, .string nm, .slice A ps.length cap, .slice B l.length bap] 52)).alloc (.cells #[.bool s', .bool c', .string ty', .string nm', .slice A' ps'.length cap', .slice B' l'.length bap'] 52) = W := ⟨_, rfl⟩
 have hb : Below w.heap.size w W := by rw [← hW]; exact ((Below.refl _ w).alloc (Nat.le_refl _) _).alloc (by simp) _
 have hx : Bx W w.heap.size #[.bool s, .bool c, .string ty, .string nm, .slice A ps.length cap, .slice B l.length bap] 52 := by rw [← hW]; exact (Bx.new _ _ _).next ((Below.refl _ _).alloc (Nat.le_refl _) _)
 have hy : Bx W (w.heap.size + 1) #[.bool s', .bool c', .string ty', .string nm', .slice A' ps'.length cap', .slice B' l'.length bap'] 52 := by
   rw [← hW]
   have := Bx.new (w.alloc (.cells #[.bool s, .bool c, .string ty, .string nm, .slice A ps.length cap, .slice B l.length bap] 52)) #[.bool s', .bool c', .string ty', .string nm', .slice A' ps'.length cap', .slice B' l'.length bap'] 52
   simpa using this
 have HI : Hid (∀ w', Below W.heap.size W w' → Calls Tryz.prog 46 #[.slice B l.length bap, .slice B' l'.length bap'] w' fun e w'' => e = .returned (.bool (sameL l l')) ∧ Below w'.heap.size w' w'') := by
   show ∀ w', _
   intro w' hc
   have K := Keep.below (hb.trans (hc.mono hb.size))
   exact ref_same_stmts_any (sizeL l) hl w' _ _ l l' (Nat.le_refl _) (hk.2.2.1.keep K) (KdL.keep K _ hk.2.2.2) (hk'.2.2.1.keep K) (KdL.keep K _ hk'.2.2.2)
 have HP : Hid (∀ w', Below W.heap.size W w' → Pw w' (.slice A ps.length cap) ps ∧ Pw w' (.slice A' ps'.length cap') ps') := by
   show ∀ w', _
   intro w' hc
   have K := Keep.below (hb.trans (hc.mono hb.size))
   exact ⟨hk.2.1.keep K, hk'.2.1.keep K⟩
 have HX : Hid (∀ w', Below W.heap.size W w' → Bx w' w.heap.size #[.bool s, .bool c, .string ty, .string nm, .slice A ps.length cap, .slice B l.length bap] 52 ∧ Bx w' (w.heap.size + 1) #[.bool s', .bool c', .string ty', .string nm', .slice A' ps'.length cap', .slice B' l'.length bap'] 52) := by
   show ∀ w', _
   intro w' hc; exact ⟨hx.next hc, hy.next hc⟩
 rw [same_mt] at hr
 obtain ⟨q, hq⟩ : ∃ q, sameL l l' = q := ⟨_, rfl⟩
 rw [hq] at HI hr
 have HB := Lib.hid hb
 obtain ⟨q0, h0⟩ : ∃ q, (s == s') = q := ⟨_, rfl⟩
 obtain ⟨q1, h1⟩ : ∃ q, (c == c') = q := ⟨_, rfl⟩
 obtain ⟨q2, h2⟩ : ∃ q, (ty.toList == ty'.toList) = q := ⟨_, rfl⟩
 obtain ⟨q3, h3⟩ : ∃ q, (nm.toList == nm'.toList) = q := ⟨_, rfl⟩
 rw [h0, h1, h2, h3] at hr
 have HR := Lib.hid hr
 have hB0 : Below W.heap.size W W := Below.refl _ _
 clear hk hk' hx hy hq hr hb
 obtain ⟨hx, hy⟩ := HX.out _ hB0
 obtain ⟨x0, x1, x2, x3, x4, x5⟩ := hx.get_6
 obtain ⟨y0, y1, y2, y3, y4, y5⟩ := hy.get_6
 clear hx hy
 by_cases hne : ps.length = ps'.length
 · obtain ⟨n, hn⟩ : ∃ n, ps.length = n := ⟨_, rfl⟩
   have hn' : ps'.length = n := hne ▸ hn
   rw [hn] at x4 HP HX hpm hW ⊢
   rw [hn'] at y4 HP HX hpm' hW ⊢
   have HLN := Lib.hid hn; have HLN' := Lib.hid hn'
   clear hn hn' hne
   cases q0
   · go_enter Tryz.func29, Tryz.ntmps29
     go_wp2_with fail
     go_ret
     exact ⟨ret_bool (by rw [← HR.out]; simp), HB.out⟩
   cases q1
   · go_enter Tryz.func29, Tryz.ntmps29
     go_wp2_with fail
     go_ret
     exact ⟨ret_bool (by rw [← HR.out]; simp), HB.out⟩
   cases q2
   · go_enter Tryz.func29, Tryz.ntmps29
     go_wp2_with fail
     go_ret
     exact ⟨ret_bool (by rw [← HR.out]; simp), HB.out⟩
   cases q3
   · go_enter Tryz.func29, Tryz.ntmps29
     go_wp2_with fail
     go_ret
     exact ⟨ret_bool (by rw [← HR.out]; simp), HB.out⟩
   have HS0 := Lib.hid (show (psB (ps.drop 0) (ps'.drop 0) && q) = r by have := HR.out; simpa using this)
   go_enter Tryz.func29, Tryz.ntmps29
   go_wp2_with fail
   clear h0 h1 h2 h3 x0 x1 x2 x3 x4 x5 y0 y1 y2 y3 y4 y5 HR hW
   go_loopw [5] (fun v5 wr => ∃ k : Nat, v5 = .int .i64 k ∧ k ≤ n ∧ (psB (ps.drop k) (ps'.drop k) && q) = r ∧ Below W.heap.size W wr) (fun v5 wr => n - (intOf v5).toNat)
   case atStart => exact ⟨0, rfl, Nat.zero_le _, HS0.out, hB0⟩
   case round =>
     obtain ⟨k, rfl, hkn, hsk, hC⟩ := hrel
     clear HS0 hB0
     obtain ⟨hx, hy⟩ := HX.out _ hC
     obtain ⟨_, _, _, _, x4, x5⟩ := hx.get_6
     obtain ⟨_, _, _, _, y4, y5⟩ := hy.get_6
     clear hx hy
     by_cases hlt : k < n
     · obtain ⟨hp, hp'⟩ := HP.out _ hC
       obtain ⟨b, o, x, rfl, hx, c0, c1⟩ := hp.at.2 k hlt
       obtain ⟨b', o', y, rfl, hy, d0, d1⟩ := hp'.at.2 k hlt
       rw [drop_at _ _ hx, drop_at _ _ hy] at hsk
       have HSK := Lib.hid (show ((prmB x y && psB (ps.drop (k + 1)) (ps'.drop (k + 1))) && q) = r from hsk)
       clear hp hp' hx hy hsk
       by_cases e1 : x.1.toList = y.1.toList
       · by_cases e2 : x.2.toList = y.2.toList
         · have HE := Lib.hid (show (psB (ps.drop (k + 1)) (ps'.drop (k + 1)) && q) = r by rw [← HSK.out]; unfold prmB; rw [e1, e2]; simp)
           go_wp2_with fail
           go_quiet (fail)
           clear e1 e2
           have hC2 := below_drewN hC nq
           go_wp2_with fail
           go_roundw
           case rel => exact ⟨k + 1, by go_num, by omega, HE.out, hC2⟩
           case measure => simp [intOf]; omega
         · have HE := Lib.hid (show r = false by rw [← HSK.out]; unfold prmB; rw [beq_false_of_ne e2]; simp)
           go_wp2_with fail
           go_quiet (fail)
           clear e1 e2
           have hC2 := below_drewN hC nq
           go_wp2_with fail
           go_ret
           exact ⟨ret_bool HE.out.symm, HB.out.trans (hC2.mono HB.out.size)⟩
       · have HE := Lib.hid (show r = false by rw [← HSK.out]; unfold prmB; rw [beq_false_of_ne e1]; simp)
         go_wp2_with fail
         go_quiet (fail)
         clear e1
         have hC2 := below_drewN hC nq
         go_wp2_with fail
         go_ret
         exact ⟨ret_bool HE.out.symm, HB.out.trans (hC2.mono HB.out.size)⟩
     · rw [List.drop_eq_nil_of_le (by rw [HLN.out]; omega), List.drop_eq_nil_of_le (by rw [HLN'.out]; omega)] at hsk
       have hqr : q = r := by rw [← hsk]; simp [psB]
       clear hsk
       go_wp2_with (go_at_call 46; refine (HI.out _ hC).mono ?_; clear HI; rintro e w1 ⟨rfl, hb1⟩)
       have hfin := HB.out.trans ((hC.trans (hb1.mono hC.size)).mono HB.out.size)
       go_ret
       exact ⟨ret_bool (by first | rfl | exact hqr), hfin⟩
 · have hf : r = false := by rw [← HR.out, psB_ne hne]; simp
   have hne2 : ((ps.length : Int) != (ps'.length : Int)) = true := by simp; omega
   have hne3 : ¬ ((ps.length : Int) = (ps'.length : Int)) := by omega
   clear HR HI HP HX
   go_enter Tryz.func29, Tryz.ntmps29
   go_wp2_with fail
   all_goals
     go_ret
     exact ⟨ret_bool hf.symm, HB.out⟩
theorem ref_same_cl (w : World) (nm sp : ByteArray) (vf vm : Value) (f m : List Nd) (nm' sp' : ByteArray) (vf' vm' : Value) (f' m' : List Nd) (hk : Kd w (.cl nm sp vf vm f m)) (hk' : Kd w (.cl nm' sp' vf' vm' f' m')) (hl : sizeL f + sizeL m ≤ 1000000) (r : Bool) (hr : sameL [.cl nm sp vf vm f m] [.cl nm' sp' vf' vm' f' m'] = r) :
   Calls Tryz.prog 19 #[.agg #[.string nm, .string sp, vf, vm], .agg #[.string nm', .string sp', vf', vm']] w fun e w' => e = .returned (.bool r) ∧ Below w.heap.size w w' := by
 rw [Kd] at hk hk'
 obtain ⟨A1, n1, rfl⟩ := hk.2.1.1.form
 obtain ⟨A2, n2, rfl⟩ := hk.2.2.1.form
 obtain ⟨B1, k1, rfl⟩ := hk'.2.1.1.form
 obtain ⟨B2, k2, rfl⟩ := hk'.2.2.1.form
 have hm1 : f.length ≤ 1000000 := by have := len_sizeL f; omega
 have hm2 : m.length ≤ 1000000 := by have := len_sizeL m; omega
 have hm3 : f'.length ≤ maxLen := by obtain ⟨_, _, _, h, _⟩ := hk'.2.1.1; exact h.1
 have hm4 : m'.length ≤ maxLen := by obtain ⟨_, _, _, h, _⟩ := hk'.2.2.1; exact h.1
 unfold maxLen at hm3 hm4
 obtain ⟨W, hW⟩ : ∃ W, (w.alloc (.cells #[.string nm, .string sp, .slice A1 f.length n1, .slice A2 m.length n2] 48)).alloc (.cells #[.string nm', .string sp', .slice B1 f'.length k1, .slice B2 m'.length k2] 48) = W := ⟨_, rfl⟩
 have hb : Below w.heap.size w W := by rw [← hW]; exact ((Below.refl _ w).alloc (Nat.le_refl _) _).alloc (by simp) _
 have hx : Bx W w.heap.size #[.string nm, .string sp, .slice A1 f.length n1, .slice A2 m.length n2] 48 := by rw [← hW]; exact (Bx.new _ _ _).next ((Below.refl _ _).alloc (Nat.le_refl _) _)
 have hy : Bx W (w.heap.size + 1) #[.string nm', .string sp', .slice B1 f'.length k1, .slice B2 m'.length k2] 48 := by
   rw [← hW]
   have := Bx.new (w.alloc (.cells #[.string nm, .string sp, .slice A1 f.length n1, .slice A2 m.length n2] 48)) #[.string nm', .string sp', .slice B1 f'.length k1, .slice B2 m'.length k2] 48
   simpa using this
 have HX : Hid (∀ w', Below W.heap.size W w' → Bx w' w.heap.size #[.string nm, .string sp, .slice A1 f.length n1, .slice A2 m.length n2] 48 ∧ Bx w' (w.heap.size + 1) #[.string nm', .string sp', .slice B1 f'.length k1, .slice B2 m'.length k2] 48) := by
   show ∀ w', _
   intro w' hc; exact ⟨hx.next hc, hy.next hc⟩
 have HF : Hid (∀ w', Below W.heap.size W w' → (Rw w' .fd (.slice A1 f.length n1) f ∧ KdL w' f) ∧ Rw w' .fd (.slice B1 f'.length k1) f' ∧ KdL w' f') := by
   show ∀ w', _
   intro w' hc
   have K := Keep.below (hb.trans (hc.mono hb.size))
   exact ⟨⟨hk.2.1.1.keep K, KdL.keep K _ hk.2.1.2⟩, hk'.2.1.1.keep K, KdL.keep K _ hk'.2.1.2⟩
 have HM : Hid (∀ w', Below W.heap.size W w' → (Rw w' .mt (.slice A2 m.length n2) m ∧ KdL w' m) ∧ Rw w' .mt (.slice B2 m'.length k2) m' ∧ KdL w' m') := by
   show ∀ w', _
   intro w' hc
   have K := Keep.below (hb.trans (hc.mono hb.size))
   exact ⟨⟨hk.2.2.1.keep K, KdL.keep K _ hk.2.2.2⟩, hk'.2.2.1.keep K, KdL.keep K _ hk'.2.2.2⟩
 rw [same_cl] at hr
 have HB := Lib.hid hb
 have HL := Lib.hid hl
 obtain ⟨q0, h0⟩ : ∃ q, (nm.toList == nm'.toList) = q := ⟨_, rfl⟩
 obtain ⟨q1, h1⟩ : ∃ q, (sp.toList == sp'.toList) = q := ⟨_, rfl⟩
 rw [h0, h1] at hr
 have HR := Lib.hid hr
 have hB0 : Below W.heap.size W W := Below.refl _ _
 clear hk hk' hx hy hr hb hl
 obtain ⟨hx, hy⟩ := HX.out _ hB0
 obtain ⟨x0, x1, x2, x3⟩ := hx.get_4
 obtain ⟨y0, y1, y2, y3⟩ := hy.get_4
 clear hx hy
 cases q0
 · go_enter Tryz.func19, Tryz.ntmps19
   go_wp2_with fail
   go_ret
   exact ⟨ret_bool (by rw [← HR.out]; simp), HB.out⟩
 cases q1
 · go_enter Tryz.func19, Tryz.ntmps19
   go_wp2_with fail
   go_ret
   exact ⟨ret_bool (by rw [← HR.out]; simp), HB.out⟩
 by_cases hne : f.length = f'.length
 · by_cases hne2 : m.length = m'.length
   · obtain ⟨n, hn⟩ : ∃ n, f.length = n := ⟨_, rfl⟩
     have hn' : f'.length = n := hne ▸ hn
     obtain ⟨p, hp⟩ : ∃ p, m.length = p := ⟨_, rfl⟩
     have hp' : m'.length = p := hne2 ▸ hp
     rw [hn] at x2 HX HF hW hm1 ⊢; rw [hn'] at y2 HX HF hW hm3 ⊢
     rw [hp] at x3 HX HM hW hm2 ⊢; rw [hp'] at y3 HX HM hW hm4 ⊢
     have HLN := Lib.hid hn; have HLN' := Lib.hid hn'; have HLP := Lib.hid hp; have HLP' := Lib.hid hp'
     clear hn hn' hne hp hp' hne2
     obtain ⟨qm, hqm⟩ : ∃ q, sameL m m' = q := ⟨_, rfl⟩
     have HQM := Lib.hid hqm
     have HS0 := Lib.hid (show (sameL (f.drop 0) (f'.drop 0) && qm) = r by have := HR.out; rw [hqm] at this; simpa using this)
     clear hqm
     go_enter Tryz.func19, Tryz.ntmps19
     go_wp2_with fail
     clear h0 h1 x0 x1 x2 x3 y0 y1 y2 y3 HR hW
     go_loopw [5] (fun v5 wr => ∃ k : Nat, v5 = .int .i64 k ∧ k ≤ n ∧ (sameL (f.drop k) (f'.drop k) && qm) = r ∧ Below W.heap.size W wr) (fun v5 wr => n - (intOf v5).toNat)
     case atStart => exact ⟨0, rfl, Nat.zero_le _, HS0.out, hB0⟩
     case round =>
       obtain ⟨k, rfl, hkn, hsk, hC⟩ := hrel
       clear HS0 hB0
       obtain ⟨hx, hy⟩ := HX.out _ hC
       obtain ⟨_, _, x2, x3⟩ := hx.get_4
       obtain ⟨_, _, y2, y3⟩ := hy.get_4
       clear hx hy
       by_cases hlt : k < n
       · obtain ⟨⟨hr1, hk1⟩, hr2, hk2⟩ := HF.out _ hC
         obtain ⟨b, o, x, rfl, hx, hxt, hc⟩ := hr1.get hlt
         obtain ⟨b', o', y, rfl, hy, hyt, hc'⟩ := hr2.get hlt
         have hxk := KdL.mem_get hk1 hx
         have hyk := KdL.mem_get hk2 hy
         rw [sameL_drop hx hy] at hsk
         have hxs : x.size ≤ sizeL f := size_mem (List.mem_of_getElem? hx)
         cases x <;> first | (simp [Nd.tag] at hxt; done) | skip
         rename_i xs xty xnm xv xl
         cases y <;> first | (simp [Nd.tag] at hyt; done) | skip
         rename_i ys yty ynm yv yl
         obtain ⟨t, ht⟩ : ∃ t, sameL [.fd xs xty xnm xv xl] [.fd ys yty ynm yv yl] = t := ⟨_, rfl⟩
         rw [ht] at hsk
         have hsz : (Nd.fd xs xty xnm xv xl).size = 1 + sizeL xl := by simp [Nd.size]
         have hb0 : Below _ _ wr.drew := (Below.refl wr.heap.size wr).drew
         have HX2 := Lib.hid (ref_same_fd wr.drew xs xty xnm xv xl ys yty ynm yv yl (Kd.keep (Keep.below hb0) _ hxk) (Kd.keep (Keep.below hb0) _ hyk) (by have := HL.out; omega) t ht)
         have x0 := hc 0 _ rfl; have x1 := hc 1 _ rfl; have x2' := hc 2 _ rfl; have x3' := hc 3 _ rfl
         have y0 := hc' 0 _ rfl; have y1 := hc' 1 _ rfl; have y2' := hc' 2 _ rfl; have y3' := hc' 3 _ rfl
         simp only [Tg.sz, Nat.add_zero] at x0 x1 x2' x3' y0 y1 y2' y3'
         obtain ⟨xA, xcap, rfl⟩ := (by rw [Kd] at hxk; exact hxk.2.1.form : ∃ A cap, xv = .slice A xl.length cap)
         obtain ⟨yA, ycap, rfl⟩ := (by rw [Kd] at hyk; exact hyk.2.1.form : ∃ A cap, yv = .slice A yl.length cap)
         have HSK := Lib.hid hsk
         have hi0 : (0 : Int) ≤ (k : Int) := by omega
         have hi1 : (k : Int) < (n : Int) := by omega
         clear hc hc' hxk hyk hx hy ht hsz hxt hyt hxs hsk hr1 hr2 hk1 hk2
         go_wp2_with fail
         go_region_with (go_at_call 28; refine HX2.out.mono ?_; clear HX2; rintro e w1 ⟨rfl, hb⟩)
         all_goals
           have hB1 := (hC.drew).trans (hb.mono hC.size)
           have h2 := HSK.out
           clear hb
           cases t
           · go_wp2_with fail
             go_ret
             exact ⟨ret_bool (by rw [← h2]; simp), HB.out.trans (hB1.mono HB.out.size)⟩
           · go_wp2_with fail
             go_roundw
             case rel => exact ⟨k + 1, by go_num, by omega, by rw [← h2]; simp, hB1⟩
             case measure => simp [intOf]; omega
       · rw [List.drop_eq_nil_of_le (by rw [HLN.out]; omega), List.drop_eq_nil_of_le (by rw [HLN'.out]; omega), sameL_nil] at hsk
         have HS1 := Lib.hid (show sameL (m.drop 0) (m'.drop 0) = r by rw [← hsk, ← HQM.out]; simp)
         clear hsk
         go_wp2_with fail
         go_loopw [6] (fun v6 wr => ∃ k : Nat, v6 = .int .i64 k ∧ k ≤ p ∧ sameL (m.drop k) (m'.drop k) = r ∧ Below W.heap.size W wr) (fun v6 wr => p - (intOf v6).toNat)
         case atStart => exact ⟨0, rfl, Nat.zero_le _, HS1.out, hC⟩
         case round =>
           obtain ⟨i, rfl, hin, hsk, hD⟩ := hrel
           clear HS1 x2 y2 x3 y3 hC
           obtain ⟨hx, hy⟩ := HX.out _ hD
           obtain ⟨_, _, x2, x3⟩ := hx.get_4
           obtain ⟨_, _, y2, y3⟩ := hy.get_4
           clear hx hy
           by_cases hil : i < p
           · obtain ⟨⟨hr1, hk1⟩, hr2, hk2⟩ := HM.out _ hD
             obtain ⟨b, o, x, rfl, hx, hxt, hc⟩ := hr1.get hil
             obtain ⟨b', o', y, rfl, hy, hyt, hc'⟩ := hr2.get hil
             have hxk := KdL.mem_get hk1 hx
             have hyk := KdL.mem_get hk2 hy
             rw [sameL_drop hx hy] at hsk
             have hxs : x.size ≤ sizeL m := size_mem (List.mem_of_getElem? hx)
             cases x <;> first | (simp [Nd.tag] at hxt; done) | skip
             rename_i xs xc xty xnm xvp xps xv xl
             cases y <;> first | (simp [Nd.tag] at hyt; done) | skip
             rename_i ys yc yty ynm yvp yps yv yl
             obtain ⟨t, ht⟩ : ∃ t, sameL [.mt xs xc xty xnm xvp xps xv xl] [.mt ys yc yty ynm yvp yps yv yl] = t := ⟨_, rfl⟩
             rw [ht] at hsk
             have hsz : (Nd.mt xs xc xty xnm xvp xps xv xl).size = 1 + sizeL xl := by simp [Nd.size]
             have hb0 : Below _ _ wr.drew := (Below.refl wr.heap.size wr).drew
             have HX2 := Lib.hid (ref_same_mt wr.drew xs xc xty xnm xvp xps xv xl ys yc yty ynm yvp yps yv yl (Kd.keep (Keep.below hb0) _ hxk) (Kd.keep (Keep.below hb0) _ hyk) (by have := HL.out; omega) t ht)
             have x0 := hc 0 _ rfl; have x1 := hc 1 _ rfl; have x2' := hc 2 _ rfl; have x3' := hc 3 _ rfl; have x4 := hc 4 _ rfl; have x5 := hc 5 _ rfl
             have y0 := hc' 0 _ rfl; have y1 := hc' 1 _ rfl; have y2' := hc' 2 _ rfl; have y3' := hc' 3 _ rfl; have y4 := hc' 4 _ rfl; have y5 := hc' 5 _ rfl
             simp only [Tg.sz, Nat.add_zero] at x0 x1 x2' x3' x4 x5 y0 y1 y2' y3' y4 y5
             rw [Kd] at hxk hyk
             obtain ⟨xA, xcap, rfl⟩ := hxk.2.2.1.form
             obtain ⟨yA, ycap, rfl⟩ := hyk.2.2.1.form
             obtain ⟨xP, xpap, rfl, _⟩ := hxk.2.1.form
             obtain ⟨yP, ypap, rfl, _⟩ := hyk.2.1.form
             have HSK := Lib.hid hsk
             have hi0 : (0 : Int) ≤ (i : Int) := by omega
             have hi1 : (i : Int) < (p : Int) := by omega
             clear hc hc' hxk hyk hx hy ht hsz hxt hyt hxs hsk hr1 hr2 hk1 hk2
             go_wp2_with fail
             go_region_with (go_at_call 29; refine HX2.out.mono ?_; clear HX2; rintro e w1 ⟨rfl, hb⟩)
             all_goals
               have hB1 := (hD.drew).trans (hb.mono hD.size)
               have h2 := HSK.out
               clear hb
               cases t
               · go_wp2_with fail
                 go_ret
                 exact ⟨ret_bool (by rw [← h2]; simp), HB.out.trans (hB1.mono HB.out.size)⟩
               · go_wp2_with fail
                 go_roundw
                 case rel => exact ⟨i + 1, by go_num, by omega, by rw [← h2]; simp, hB1⟩
                 case measure => simp [intOf]; omega
           · rw [List.drop_eq_nil_of_le (by rw [HLP.out]; omega), List.drop_eq_nil_of_le (by rw [HLP'.out]; omega), sameL_nil] at hsk
             have HSK := Lib.hid hsk
             clear hsk
             go_wp2_with fail
             go_ret
             exact ⟨ret_bool HSK.out, HB.out.trans (hD.mono HB.out.size)⟩
   · have hf : r = false := by rw [← HR.out, sameL_ne _ _ hne2]; simp
     have hne3 : ¬ ((m.length : Int) = (m'.length : Int)) := by omega
     have hne4 : ((m.length : Int) != (m'.length : Int)) = true := by simp; omega
     obtain ⟨n, hn⟩ : ∃ n, f.length = n := ⟨_, rfl⟩
     have hn' : f'.length = n := hne ▸ hn
     rw [hn] at x2 hW hm1 ⊢; rw [hn'] at y2 hW hm3 ⊢
     clear hn hn' hne
     clear HR HX HF HM
     go_enter Tryz.func19, Tryz.ntmps19
     go_wp2_with fail
     all_goals
       go_ret
       exact ⟨ret_bool hf.symm, HB.out⟩
 · have hf : r = false := by rw [← HR.out, sameL_ne _ _ hne]; simp
   have hne3 : ¬ ((f.length : Int) = (f'.length : Int)) := by omega
   have hne4 : ((f.length : Int) != (f'.length : Int)) = true := by simp; omega
   clear HR HX HF HM
   go_enter Tryz.func19, Tryz.ntmps19
   go_wp2_with fail
   all_goals
     go_ret
     exact ⟨ret_bool hf.symm, HB.out⟩
theorem ref_same_prog (w : World) (v v' : Value) (l l' : List Nd) (hr : Rw w .cl v l) (hk : KdL w l) (hr' : Rw w .cl v' l') (hk' : KdL w l') (hl : sizeL l ≤ 1000000) (r : Bool) (hq : sameL l l' = r) :
   Calls Tryz.prog 7 #[.agg #[v], .agg #[v']] w fun e w' => e = .returned (.bool r) ∧ Below w.heap.size w w' := by
 obtain ⟨A, cap, rfl⟩ := hr.form
 obtain ⟨A', cap', rfl⟩ := hr'.form
 have hm1 : l.length ≤ 1000000 := by have := len_sizeL l; omega
 have hm3 : l'.length ≤ maxLen := by obtain ⟨_, _, _, h, _⟩ := hr'; exact h.1
 unfold maxLen at hm3
 obtain ⟨W, hW⟩ : ∃ W, (w.alloc (.cells #[.slice A l.length cap] 29)).alloc (.cells #[.slice A' l'.length cap'] 29) = W := ⟨_, rfl⟩
 have hb : Below w.heap.size w W := by rw [← hW]; exact ((Below.refl _ w).alloc (Nat.le_refl _) _).alloc (by simp) _
 have hx : Bx W w.heap.size #[.slice A l.length cap] 29 := by rw [← hW]; exact (Bx.new _ _ _).next ((Below.refl _ _).alloc (Nat.le_refl _) _)
 have hy : Bx W (w.heap.size + 1) #[.slice A' l'.length cap'] 29 := by
   rw [← hW]
   have := Bx.new (w.alloc (.cells #[.slice A l.length cap] 29)) #[.slice A' l'.length cap'] 29
   simpa using this
 have HX : Hid (∀ w', Below W.heap.size W w' → w'.cell? ⟨w.heap.size, 0, none⟩ = some (.slice A l.length cap) ∧ w'.cell? ⟨w.heap.size + 1, 0, none⟩ = some (.slice A' l'.length cap')) := by
   show ∀ w', _
   intro w' hc; exact ⟨(hx.next hc).cell 0, (hy.next hc).cell 0⟩
 have HF : Hid (∀ w', Below W.heap.size W w' → (Rw w' .cl (.slice A l.length cap) l ∧ KdL w' l) ∧ Rw w' .cl (.slice A' l'.length cap') l' ∧ KdL w' l') := by
   show ∀ w', _
   intro w' hc
   have K := Keep.below (hb.trans (hc.mono hb.size))
   exact ⟨⟨hr.keep K, KdL.keep K _ hk⟩, hr'.keep K, KdL.keep K _ hk'⟩
 have HB := Lib.hid hb
 have HL := Lib.hid hl
 have hB0 : Below W.heap.size W W := Below.refl _ _
 clear hr hk hr' hk' hx hy hb hl
 obtain ⟨x0, y0⟩ := HX.out _ hB0
 by_cases hne : l.length = l'.length
 · obtain ⟨n, hn⟩ : ∃ n, l.length = n := ⟨_, rfl⟩
   have hn' : l'.length = n := hne ▸ hn
   rw [hn] at x0 HX HF hW hm1 ⊢; rw [hn'] at y0 HX HF hW hm3 ⊢
   have HLN := Lib.hid hn; have HLN' := Lib.hid hn'
   have HS0 := Lib.hid (show sameL (l.drop 0) (l'.drop 0) = r by simpa using hq)
   clear hn hn' hne hq
   go_enter Tryz.func7, Tryz.ntmps7
   go_wp2_with fail
   clear x0 y0 hW
   go_loopw [5] (fun v5 wr => ∃ k : Nat, v5 = .int .i64 k ∧ k ≤ n ∧ sameL (l.drop k) (l'.drop k) = r ∧ Below W.heap.size W wr) (fun v5 wr => n - (intOf v5).toNat)
   case atStart => exact ⟨0, rfl, Nat.zero_le _, HS0.out, hB0⟩
   case round =>
     obtain ⟨k, rfl, hkn, hsk, hC⟩ := hrel
     clear HS0 hB0
     obtain ⟨x0', y0'⟩ := HX.out _ hC
     by_cases hlt : k < n
     · obtain ⟨⟨hr1, hk1⟩, hr2, hk2⟩ := HF.out _ hC
       obtain ⟨b, o, x, rfl, hx, hxt, hc⟩ := hr1.get hlt
       obtain ⟨b', o', y, rfl, hy, hyt, hc'⟩ := hr2.get hlt
       have hxk := KdL.mem_get hk1 hx
       have hyk := KdL.mem_get hk2 hy
       rw [sameL_drop hx hy] at hsk
       have hxs : x.size ≤ sizeL l := size_mem (List.mem_of_getElem? hx)
       cases x <;> first | (simp [Nd.tag] at hxt; done) | skip
       rename_i xnm xsp xvf xvm xf xm
       cases y <;> first | (simp [Nd.tag] at hyt; done) | skip
       rename_i ynm ysp yvf yvm yf ym
       obtain ⟨t, ht⟩ : ∃ t, sameL [.cl xnm xsp xvf xvm xf xm] [.cl ynm ysp yvf yvm yf ym] = t := ⟨_, rfl⟩
       rw [ht] at hsk
       have hsz : (Nd.cl xnm xsp xvf xvm xf xm).size = 1 + (sizeL xf + sizeL xm) := by simp [Nd.size]
       have hb0 : Below _ _ wr.drew := (Below.refl wr.heap.size wr).drew
       have HX2 := Lib.hid (ref_same_cl wr.drew xnm xsp xvf xvm xf xm ynm ysp yvf yvm yf ym (Kd.keep (Keep.below hb0) _ hxk) (Kd.keep (Keep.below hb0) _ hyk) (by have := HL.out; omega) t ht)
       have x0 := hc 0 _ rfl; have x1 := hc 1 _ rfl; have x2' := hc 2 _ rfl; have x3' := hc 3 _ rfl
       have y0 := hc' 0 _ rfl; have y1 := hc' 1 _ rfl; have y2' := hc' 2 _ rfl; have y3' := hc' 3 _ rfl
       simp only [Tg.sz, Nat.add_zero] at x0 x1 x2' x3' y0 y1 y2' y3'
       rw [Kd] at hxk hyk
       obtain ⟨xA, xcap, rfl⟩ := hxk.2.1.1.form
       obtain ⟨yA, ycap, rfl⟩ := hyk.2.1.1.form
       obtain ⟨xP, xpap, rfl⟩ := hxk.2.2.1.form
       obtain ⟨yP, ypap, rfl⟩ := hyk.2.2.1.form
       have HSK := Lib.hid hsk
       have hi0 : (0 : Int) ≤ (k : Int) := by omega
       have hi1 : (k : Int) < (n : Int) := by omega
       clear hc hc' hxk hyk hx hy ht hsz hxt hyt hxs hsk hr1 hr2 hk1 hk2
       go_wp2_with fail
       go_region_with (go_at_call 19; refine HX2.out.mono ?_; clear HX2; rintro e w1 ⟨rfl, hb⟩)
       all_goals
         have hB1 := (hC.drew).trans (hb.mono hC.size)
         have h2 := HSK.out
         clear hb
         cases t
         · go_wp2_with fail
           go_ret
           exact ⟨ret_bool (by rw [← h2]; simp), HB.out.trans (hB1.mono HB.out.size)⟩
         · go_wp2_with fail
           go_roundw
           case rel => exact ⟨k + 1, by go_num, by omega, by rw [← h2]; simp, hB1⟩
           case measure => simp [intOf]; omega
     · rw [List.drop_eq_nil_of_le (by rw [HLN.out]; omega), List.drop_eq_nil_of_le (by rw [HLN'.out]; omega), sameL_nil] at hsk
       have HSK := Lib.hid hsk
       clear hsk
       go_wp2_with fail
       go_ret
       exact ⟨ret_bool HSK.out, HB.out.trans (hC.mono HB.out.size)⟩
 · have hf : r = false := by rw [← hq]; exact sameL_ne _ _ hne
   have hne3 : ¬ ((l.length : Int) = (l'.length : Int)) := by omega
   have hne4 : ((l.length : Int) != (l'.length : Int)) = true := by simp; omega
   clear HX HF hq
   go_enter Tryz.func7, Tryz.ntmps7
   go_wp2_with fail
   all_goals
     go_ret
     exact ⟨ret_bool hf.symm, HB.out⟩
end
end Go.Proofs.YtipcoglddfgopaaGreatDoor
