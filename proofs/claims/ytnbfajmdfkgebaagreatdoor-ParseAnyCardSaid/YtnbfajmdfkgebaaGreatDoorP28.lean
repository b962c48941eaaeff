/- Parts of the proof: MayT, MayM. -/
import Derived.Test.YtnbfajmdfkgebaaGreatDoorP1
set_option maxHeartbeats 16000000
set_option maxRecDepth 100000
namespace Go.Proofs.YtnbfajmdfkgebaaGreatDoor
set_option linter.unusedSimpArgs false
set_option linter.unusedVariables false
section
open Go.RowKit
theorem drop_got {l : List Nd} {k : Nat} {x : Nd} (h : l[k]? = some x) : l.drop k = x :: l.drop (k + 1) := by
 obtain ⟨h1, h2⟩ := List.getElem?_eq_some_iff.1 h
 rw [List.drop_eq_getElem_cons h1, h2]
theorem Rw.tags {w : World} {t : Tg} {v : Value} {l : List Nd} (h : Rw w t v l) : ∀ x ∈ l, x.tag = t := by obtain ⟨_, _, _, _, ht, _⟩ := h; exact ht
def StsSaid (s : Nat) : Prop := ∀ (w : World) (v : Value) (l : List Nd) (d : Nat) (dI : Int) (sup : Bool), sizeL l ≤ s → s ≤ 1000000 → Rw w .st v l → KdL w l → dI = d → d ≤ 500 →
   Calls Tryz.prog 48 #[v, .int .i64 dI, .bool sup] w fun r w' => r = .returned (.bool (stB sup 0 d l)) ∧ Below w.heap.size w w'
theorem may_sts_false (s : Nat) (ih : ∀ m, m < s → StsSaid m) (w : World) (v : Value) (l : List Nd) (d : Nat) (dI : Int) (hl : sizeL l ≤ s) (hs : s ≤ 1000000) (hr : Rw w .st v l) (hk : KdL w l) (hdI : dI = d) (hd : d ≤ 500) :
   Calls Tryz.prog 48 #[v, .int .i64 dI, .bool false] w fun r w' => r = .returned (.bool (stB false 0 d l)) ∧ Below w.heap.size w w' := by
 obtain ⟨A, cap, rfl⟩ := hr.form
 have hm : l.length ≤ 1000000 := by have := len_sizeL l; omega
 obtain ⟨n, hn⟩ : ∃ n, l.length = n := ⟨_, rfl⟩
 rw [hn] at hr hm ⊢
 obtain ⟨r, hrr⟩ : ∃ r, stB false 0 d l = r := ⟨_, rfl⟩
 rw [hrr]
 have HR := Lib.hid hr; have HK := Lib.hid hk; have HLN := Lib.hid hn; have HL := Lib.hid hl; have HDI := Lib.hid hdI; have HD := Lib.hid hd
 have HR0 := Lib.hid (show stB false 0 d (l.drop 0) = r from hrr)
 obtain ⟨qd, hqd⟩ : ∃ q, decide (40 < dI) = q := ⟨_, rfl⟩
 have hdd : decide (d ≤ 40) = !qd := by rw [← hqd, Bool.eq_iff_iff]; simp; omega
 have HDD := Lib.hid hdd
 have hd0 : 0 ≤ dI := by omega
 have hd1 : dI ≤ 1000 := by omega
 clear hr hk hn hl hdI hd hrr hdd
 go_enter Tryz.func48, Tryz.ntmps48
 go_wp2
 go_loopw [7] (fun v7 wr => ∃ k : Nat, v7 = .int .i64 k ∧ k ≤ n ∧ stB false k d (l.drop k) = r ∧ Below w.heap.size w wr) (fun v7 wr => n - (intOf v7).toNat)
 case atStart => exact ⟨0, rfl, Nat.zero_le _, HR0.out, Below.refl _ _⟩
 case round =>
   obtain ⟨k, rfl, hkn, hsk, hB⟩ := hrel
   clear HR0
   by_cases hlt : k < n
   · have K := Keep.below hB
     obtain ⟨bb, o, x, rfl, hx, hxt, hc⟩ := (HR.out.keep K).get hlt
     have hxk := KdL.mem_get (KdL.keep K _ HK.out) hx
     have hxs : x.size ≤ s := Nat.le_trans (size_mem (List.mem_of_getElem? hx)) HL.out
     rw [drop_got hx, stB_cons] at hsk
     cases x <;> first | (simp [Nd.tag] at hxt; done) | skip
     rename_i xk xn xty xnm ve va vb vc e a b c nth
     have hxk0 := hxk
     rw [Kd] at hxk
     rw [okT_st _ _ _ _ _ _ _ _ _ _ _ _ _ _ hxk.2.1.1.tags hxk.2.2.1.1.tags hxk.2.2.2.1.1.tags hxk.2.2.2.2.1.tags, HDD.out] at hsk
     simp only [Nd.kind] at hsk
     have hsz : (Nd.st xk xn xty xnm ve va vb vc e a b c nth).size = 1 + (sizeL e + sizeL a + sizeL b + sizeL c) := by simp [Nd.size]
     obtain ⟨A1, n1, rfl⟩ := hxk.2.1.1.form
     obtain ⟨A2, n2, rfl⟩ := hxk.2.2.1.1.form
     obtain ⟨A3, n3, rfl⟩ := hxk.2.2.2.1.1.form
     obtain ⟨A4, n4, rfl⟩ := hxk.2.2.2.2.1.form
     obtain ⟨qs, hqs⟩ : ∃ q, shpB xk xn xty xnm e a.length b.length c.length = !q := ⟨!shpB xk xn xty xnm e a.length b.length c.length, by simp⟩
     obtain ⟨qE, hqE⟩ : ∃ q, e.all (fun y => okT y d) = q := ⟨_, rfl⟩
     obtain ⟨qA, hqA⟩ : ∃ q, stB false 0 (d + 1) a = !q := ⟨!stB false 0 (d + 1) a, by simp⟩
     obtain ⟨qB, hqB⟩ : ∃ q, stB false 0 (d + 1) b = !q := ⟨!stB false 0 (d + 1) b, by simp⟩
     obtain ⟨qC, hqC⟩ : ∃ q, stB false 0 (d + 1) c = !q := ⟨!stB false 0 (d + 1) c, by simp⟩
     obtain ⟨qR, hqR⟩ : ∃ q, stB false (k + 1) d (l.drop (k + 1)) = q := ⟨_, rfl⟩
     obtain ⟨qk, hqk⟩ : ∃ q, (xk == 11) = q := ⟨_, rfl⟩
     rw [hqs, hqE, hqA, hqB, hqC, hqR, hqk] at hsk
     have HSK := Lib.hid hsk
     have HQR := Lib.hid hqR
     have HQE := Lib.hid hqE
     have HBw := Lib.hid hB
     obtain ⟨W1, hW1⟩ : ∃ W1, wr.alloc (.cells #[.int .i64 xk, .int .i32 xn, .string xty, .string xnm, .slice A1 e.length n1, .slice A2 a.length n2, .slice A3 b.length n3, .slice A4 c.length n4, .int .i64 nth] 118) = W1 := ⟨_, rfl⟩
     have hb1 : Below wr.heap.size wr W1 := by rw [← hW1]; exact (Below.refl _ wr).alloc (Nat.le_refl _) _
     have hx1 : Bx W1 wr.heap.size #[.int .i64 xk, .int .i32 xn, .string xty, .string xnm, .slice A1 e.length n1, .slice A2 a.length n2, .slice A3 b.length n3, .slice A4 c.length n4, .int .i64 nth] 118 := by rw [← hW1]; exact Bx.new _ _ _
     have HW1 := Lib.hid (hB.trans (hb1.mono hB.size))
     have HX1 : Hid (∀ w', Below W1.heap.size W1 w' → Bx w' wr.heap.size #[.int .i64 xk, .int .i32 xn, .string xty, .string xnm, .slice A1 e.length n1, .slice A2 a.length n2, .slice A3 b.length n3, .slice A4 c.length n4, .int .i64 nth] 118) := by
       show ∀ w', _
       intro w' hc; exact hx1.next hc
     have HSH : Hid (∀ w', Below W1.heap.size W1 w' → Calls Tryz.prog 68 #[.agg #[.int .i64 xk, .int .i32 xn, .string xty, .string xnm, .slice A1 e.length n1, .slice A2 a.length n2, .slice A3 b.length n3, .slice A4 c.length n4, .int .i64 nth]] w' fun r w'' => r = .returned (.bool (!qs)) ∧ Below w'.heap.size w' w'') := by
       show ∀ w', _
       intro w' hc
       rw [← hqs]
       exact shape_any w' _ _ _ _ _ _ _ _ _ _ _ _ _ (Kd.keep (Keep.below (hb1.trans (hc.mono hb1.size))) _ hxk0) (by omega)
     have HEE : Hid (∀ w', Below W1.heap.size W1 w' → Rw w' .ex (.slice A1 e.length n1) e ∧ KdL w' e) := by
       show ∀ w', _
       intro w' hc
       have K := Keep.below (hb1.trans (hc.mono hb1.size))
       exact ⟨hxk.2.1.1.keep K, KdL.keep K _ hxk.2.1.2⟩
     have HA : Hid (qd = false → ∀ w', Below W1.heap.size W1 w' → Calls Tryz.prog 48 #[.slice A2 a.length n2, .int .i64 (dI + 1), .bool false] w' fun r w'' => r = .returned (.bool (!qA)) ∧ Below w'.heap.size w' w'') := by
       show _ → ∀ w', _
       intro hqd0 w' hc
       have hd40 : d ≤ 40 := by have := HDD.out; rw [hqd0] at this; simpa using this
       have K := Keep.below (hb1.trans (hc.mono hb1.size))
       rw [← hqA]
       have := HDI.out; have := HD.out
       exact ih (sizeL a) (by omega) w' _ a (d + 1) (dI + 1) false (Nat.le_refl _) (by omega) (hxk.2.2.1.1.keep K) (KdL.keep K _ hxk.2.2.1.2) (by omega) (by omega)
     have HBb : Hid (qd = false → ∀ w', Below W1.heap.size W1 w' → Calls Tryz.prog 48 #[.slice A3 b.length n3, .int .i64 (dI + 1), .bool false] w' fun r w'' => r = .returned (.bool (!qB)) ∧ Below w'.heap.size w' w'') := by
       show _ → ∀ w', _
       intro hqd0 w' hc
       have hd40 : d ≤ 40 := by have := HDD.out; rw [hqd0] at this; simpa using this
       have K := Keep.below (hb1.trans (hc.mono hb1.size))
       rw [← hqB]
       have := HDI.out; have := HD.out
       exact ih (sizeL b) (by omega) w' _ b (d + 1) (dI + 1) false (Nat.le_refl _) (by omega) (hxk.2.2.2.1.1.keep K) (KdL.keep K _ hxk.2.2.2.1.2) (by omega) (by omega)
     have HC : Hid (qd = false → ∀ w', Below W1.heap.size W1 w' → Calls Tryz.prog 48 #[.slice A4 c.length n4, .int .i64 (dI + 1), .bool false] w' fun r w'' => r = .returned (.bool (!qC)) ∧ Below w'.heap.size w' w'') := by
       show _ → ∀ w', _
       intro hqd0 w' hc
       have hd40 : d ≤ 40 := by have := HDD.out; rw [hqd0] at this; simpa using this
       have K := Keep.below (hb1.trans (hc.mono hb1.size))
       rw [← hqC]
       have := HDI.out; have := HD.out
       exact ih (sizeL c) (by omega) w' _ c (d + 1) (dI + 1) false (Nat.le_refl _) (by omega) (hxk.2.2.2.2.1.keep K) (KdL.keep K _ hxk.2.2.2.2.2) (by omega) (by omega)
     have hes : sizeL e ≤ 1000000 := by omega
     have hel : e.length ≤ 1000000 := by have := len_sizeL e; omega
     have HES := Lib.hid hes
     have x0 := hc 0 _ rfl; have x1 := hc 1 _ rfl; have x2 := hc 2 _ rfl; have x3 := hc 3 _ rfl; have x4 := hc 4 _ rfl; have x5 := hc 5 _ rfl; have x6 := hc 6 _ rfl; have x7 := hc 7 _ rfl; have x8 := hc 8 _ rfl
     simp only [Tg.sz, Nat.add_zero] at x0 x1 x2 x3 x4 x5 x6 x7 x8
     obtain ⟨y0, y1, y2, y3, y4, y5, y6, y7, y8⟩ := hx1.get_9
     clear hc hxk hxk0 hx hsz hxt K hB hxs hsk ih hqs hqE hqA hqB hqC hqR hb1 hx1 hes
     have hC0 : Below W1.heap.size W1 W1 := Below.refl _ _
     go_wp2_with (go_at_call 68; refine (HSH.out _ hC0).mono ?_; clear HSH; rintro r' w1 ⟨rfl, hC1⟩)
     all_goals first
       | (go_ret
          exact ⟨ret_bool (by rw [← HSK.out]; simp [*]), HW1.out.trans (hC1.mono HW1.out.size)⟩)
       | (go_ret
          exact ⟨ret_bool (by rw [← HSK.out]; simp [*]), HW1.out⟩)
       | skip
     all_goals
       have HSR := Lib.hid (show (qE && (!qA && (!qB && (!qC && qR)))) = r by rw [← HSK.out]; simp [*, Bool.and_assoc])
       obtain rfl : qd = false := by simp [*]
       obtain rfl : qs = false := by simp [*]
       try simp only [Bool.not_false]
       have hd40 : d ≤ 40 := by have := HDD.out; simpa using this
       have hdI40 : dI ≤ 40 := by have := HDI.out; omega
       replace HA := HA.out rfl; replace HBb := HBb.out rfl; replace HC := HC.out rfl
       have HA := Lib.hid HA; have HBb := Lib.hid HBb; have HC := Lib.hid HC
       clear x0 x1 x2 x3 x4 x5 x6 x7 x8 y0 y1 y2 y3 y4 y5 y6 y7 y8
       obtain ⟨_, _, _, _, y4, y5, y6, y7, _⟩ := (HX1.out _ hC1).get_9
       go_loopw [9] (fun v9 wx => ∃ j : Nat, v9 = .int .i64 j ∧ j ≤ e.length ∧ (e.take j).all (fun y => okT y d) = true ∧ Below W1.heap.size W1 wx) (fun v9 wx => e.length - (intOf v9).toNat)
       case atStart => exact ⟨0, rfl, Nat.zero_le _, by simp, hC1⟩
       case round =>
         obtain ⟨j, rfl, hjn, hall, hD⟩ := hrel
         have HALL := Lib.hid hall
         clear hall y4 y5 y6 y7
         obtain ⟨_, _, _, _, y4, y5, y6, y7, _⟩ := (HX1.out _ hD).get_9
         by_cases hjl : j < e.length
         · obtain ⟨hRe, hKe⟩ := HEE.out _ hD
           obtain ⟨g, go, z, rfl, hz, hzt, hcz⟩ := hRe.get hjl
           have hzk := KdL.mem_get hKe hz
           have hzs := size_mem (List.mem_of_getElem? hz)
           cases z <;> first | (simp [Nd.tag] at hzt; done) | skip
           rename_i zk zn ztx znm zty zv zl zown znth
           have hzz : (Nd.ex zk zn ztx znm zty zv zl zown znth).size = 1 + sizeL zl := by simp [Nd.size]
           obtain ⟨tt, htt⟩ : ∃ t, okT (.ex zk zn ztx znm zty zv zl zown znth) d = t := ⟨_, rfl⟩
           have HCALL := Lib.hid (may_ex (sizeL zl) _ zk zn ztx znm zty zv zl zown znth d dI (Nat.le_refl _) (by have := HES.out; omega) hzk HDI.out (by have := HD.out; omega))
           rw [htt] at HCALL
           obtain ⟨zA, zc, rfl⟩ := (by rw [Kd] at hzk; exact hzk.2.1.form : ∃ A cap, zv = .slice A zl.length cap)
           have c0 := hcz 0 _ rfl; have c1 := hcz 1 _ rfl; have c2 := hcz 2 _ rfl; have c3 := hcz 3 _ rfl; have c4 := hcz 4 _ rfl; have c5 := hcz 5 _ rfl; have c6 := hcz 6 _ rfl; have c7 := hcz 7 _ rfl
           simp only [Tg.sz, Nat.add_zero] at c0 c1 c2 c3 c4 c5 c6 c7
           have HTT := Lib.hid htt
           have HZ := Lib.hid hz
           clear htt hz hcz hzt hzk hzs hzz hRe hKe
           cases tt
           · have HF := Lib.hid (show r = false by rw [← HSR.out, ← HQE.out, all_false HZ.out (fun y => okT y d) HTT.out]; rfl)
             go_wp2_with (go_at_call 21; refine HCALL.out.mono ?_; clear HCALL; rintro r' w2 ⟨rfl, hb2⟩)
             have hD2 := hD.trans (hb2.mono hD.size)
             go_ret
             exact ⟨ret_bool HF.out.symm, HW1.out.trans (hD2.mono HW1.out.size)⟩
           · have HN := Lib.hid (show (e.take (j + 1)).all (fun y => okT y d) = true by rw [all_take_succ HZ.out, HALL.out, HTT.out]; rfl)
             go_wp2_with (go_at_call 21; refine HCALL.out.mono ?_; clear HCALL; rintro r' w2 ⟨rfl, hb2⟩)
             have hD2 := hD.trans (hb2.mono hD.size)
             go_roundw
             case rel => exact ⟨j + 1, by go_num, by omega, HN.out, hD2⟩
             case measure => simp [intOf]; omega
         · have hqe1 : qE = true := by rw [← HQE.out, ← HALL.out, List.take_of_length_le (by omega)]
           have HST := Lib.hid (show (!qA && (!qB && (!qC && qR))) = r by rw [← HSR.out, hqe1]; rfl)
           clear hqe1
           go_wp2_with (first
             | (go_at_call_of 48 (Value.slice A2 a.length n2); refine (HA.out _ hD).mono ?_; clear HA; rintro r' w2 ⟨rfl, hb2⟩; have hD2 := hD.trans (hb2.mono hD.size); clear hb2; obtain ⟨_, _, _, _, _, y5, y6, y7, _⟩ := (HX1.out _ hD2).get_9)
             | (go_at_call_of 48 (Value.slice A3 b.length n3); refine (HBb.out _ hD2).mono ?_; clear HBb; rintro r' w3 ⟨rfl, hb3⟩; have hD3 := hD2.trans (hb3.mono hD2.size); clear hb3; obtain ⟨_, _, _, _, _, _, y6, y7, _⟩ := (HX1.out _ hD3).get_9)
             | (go_at_call_of 48 (Value.slice A4 c.length n4); refine (HC.out _ hD3).mono ?_; clear HC; rintro r' w4 ⟨rfl, hb4⟩; have hD4 := hD3.trans (hb4.mono hD3.size); clear hb4))
           all_goals first
             | (go_roundw
                case rel => exact ⟨k + 1, by first | go_num | (simp [*]; done) | (simp [*]; go_num), by omega, by rw [HQR.out, ← HST.out]; simp [*], HW1.out.trans (hD4.mono HW1.out.size)⟩
                case measure => simp [intOf]; omega)
             | (go_ret
                exact ⟨ret_bool (by rw [← HST.out]; simp [*]), HW1.out.trans (hD4.mono HW1.out.size)⟩)
             | (go_ret
                exact ⟨ret_bool (by rw [← HST.out]; simp [*]), HW1.out.trans (hD3.mono HW1.out.size)⟩)
             | (go_ret
                exact ⟨ret_bool (by rw [← HST.out]; simp [*]), HW1.out.trans (hD2.mono HW1.out.size)⟩)
   · have hF : r = true := by rw [← hsk, List.drop_eq_nil_of_le (by rw [HLN.out]; omega), stB_nil]
     have HF := Lib.hid hF
     clear ih hsk hF
     go_wp2_with fail
     go_ret
     exact ⟨ret_bool HF.out.symm, hB⟩
theorem may_sts_true (s : Nat) (ih : ∀ m, m < s → StsSaid m) (w : World) (v : Value) (l : List Nd) (d : Nat) (dI : Int) (hl : sizeL l ≤ s) (hs : s ≤ 1000000) (hr : Rw w .st v l) (hk : KdL w l) (hdI : dI = d) (hd : d ≤ 500) :
   Calls Tryz.prog 48 #[v, .int .i64 dI, .bool true] w fun r w' => r = .returned (.bool (stB true 0 d l)) ∧ Below w.heap.size w w' := by
 obtain ⟨A, cap, rfl⟩ := hr.form
 have hm : l.length ≤ 1000000 := by have := len_sizeL l; omega
 obtain ⟨n, hn⟩ : ∃ n, l.length = n := ⟨_, rfl⟩
 rw [hn] at hr hm ⊢
 obtain ⟨r, hrr⟩ : ∃ r, stB true 0 d l = r := ⟨_, rfl⟩
 rw [hrr]
 have HR := Lib.hid hr; have HK := Lib.hid hk; have HLN := Lib.hid hn; have HL := Lib.hid hl; have HDI := Lib.hid hdI; have HD := Lib.hid hd
 have HR0 := Lib.hid (show stB true 0 d (l.drop 0) = r from hrr)
 obtain ⟨qd, hqd⟩ : ∃ q, decide (40 < dI) = q := ⟨_, rfl⟩
 have hdd : decide (d ≤ 40) = !qd := by rw [← hqd, Bool.eq_iff_iff]; simp; omega
 have HDD := Lib.hid hdd
 have hd0 : 0 ≤ dI := by omega
 have hd1 : dI ≤ 1000 := by omega
 clear hr hk hn hl hdI hd hrr hdd
 go_enter Tryz.func48, Tryz.ntmps48
 go_wp2
 go_loopw [7] (fun v7 wr => ∃ k : Nat, v7 = .int .i64 k ∧ k ≤ n ∧ stB true k d (l.drop k) = r ∧ Below w.heap.size w wr) (fun v7 wr => n - (intOf v7).toNat)
 case atStart => exact ⟨0, rfl, Nat.zero_le _, HR0.out, Below.refl _ _⟩
 case round =>
   obtain ⟨k, rfl, hkn, hsk, hB⟩ := hrel
   clear HR0
   by_cases hlt : k < n
   · have K := Keep.below hB
     obtain ⟨bb, o, x, rfl, hx, hxt, hc⟩ := (HR.out.keep K).get hlt
     have hxk := KdL.mem_get (KdL.keep K _ HK.out) hx
     have hxs : x.size ≤ s := Nat.le_trans (size_mem (List.mem_of_getElem? hx)) HL.out
     rw [drop_got hx, stB_cons] at hsk
     cases x <;> first | (simp [Nd.tag] at hxt; done) | skip
     rename_i xk xn xty xnm ve va vb vc e a b c nth
     have hxk0 := hxk
     rw [Kd] at hxk
     rw [okT_st _ _ _ _ _ _ _ _ _ _ _ _ _ _ hxk.2.1.1.tags hxk.2.2.1.1.tags hxk.2.2.2.1.1.tags hxk.2.2.2.2.1.tags, HDD.out] at hsk
     simp only [Nd.kind] at hsk
     have hsz : (Nd.st xk xn xty xnm ve va vb vc e a b c nth).size = 1 + (sizeL e + sizeL a + sizeL b + sizeL c) := by simp [Nd.size]
     obtain ⟨A1, n1, rfl⟩ := hxk.2.1.1.form
     obtain ⟨A2, n2, rfl⟩ := hxk.2.2.1.1.form
     obtain ⟨A3, n3, rfl⟩ := hxk.2.2.2.1.1.form
     obtain ⟨A4, n4, rfl⟩ := hxk.2.2.2.2.1.form
     obtain ⟨qs, hqs⟩ : ∃ q, shpB xk xn xty xnm e a.length b.length c.length = !q := ⟨!shpB xk xn xty xnm e a.length b.length c.length, by simp⟩
     obtain ⟨qE, hqE⟩ : ∃ q, e.all (fun y => okT y d) = q := ⟨_, rfl⟩
     obtain ⟨qA, hqA⟩ : ∃ q, stB false 0 (d + 1) a = !q := ⟨!stB false 0 (d + 1) a, by simp⟩
     obtain ⟨qB, hqB⟩ : ∃ q, stB false 0 (d + 1) b = !q := ⟨!stB false 0 (d + 1) b, by simp⟩
     obtain ⟨qC, hqC⟩ : ∃ q, stB false 0 (d + 1) c = !q := ⟨!stB false 0 (d + 1) c, by simp⟩
     obtain ⟨qR, hqR⟩ : ∃ q, stB true (k + 1) d (l.drop (k + 1)) = q := ⟨_, rfl⟩
     obtain ⟨qk, hqk⟩ : ∃ q, (xk == 11) = q := ⟨_, rfl⟩
     rw [hqs, hqE, hqA, hqB, hqC, hqR, hqk] at hsk
     have HSK := Lib.hid hsk
     have HQR := Lib.hid hqR
     have HQE := Lib.hid hqE
     have HBw := Lib.hid hB
     obtain ⟨W1, hW1⟩ : ∃ W1, wr.alloc (.cells #[.int .i64 xk, .int .i32 xn, .string xty, .string xnm, .slice A1 e.length n1, .slice A2 a.length n2, .slice A3 b.length n3, .slice A4 c.length n4, .int .i64 nth] 118) = W1 := ⟨_, rfl⟩
     have hb1 : Below wr.heap.size wr W1 := by rw [← hW1]; exact (Below.refl _ wr).alloc (Nat.le_refl _) _
     have hx1 : Bx W1 wr.heap.size #[.int .i64 xk, .int .i32 xn, .string xty, .string xnm, .slice A1 e.length n1, .slice A2 a.length n2, .slice A3 b.length n3, .slice A4 c.length n4, .int .i64 nth] 118 := by rw [← hW1]; exact Bx.new _ _ _
     have HW1 := Lib.hid (hB.trans (hb1.mono hB.size))
     have HX1 : Hid (∀ w', Below W1.heap.size W1 w' → Bx w' wr.heap.size #[.int .i64 xk, .int .i32 xn, .string xty, .string xnm, .slice A1 e.length n1, .slice A2 a.length n2, .slice A3 b.length n3, .slice A4 c.length n4, .int .i64 nth] 118) := by
       show ∀ w', _
       intro w' hc; exact hx1.next hc
     have HSH : Hid (∀ w', Below W1.heap.size W1 w' → Calls Tryz.prog 68 #[.agg #[.int .i64 xk, .int .i32 xn, .string xty, .string xnm, .slice A1 e.length n1, .slice A2 a.length n2, .slice A3 b.length n3, .slice A4 c.length n4, .int .i64 nth]] w' fun r w'' => r = .returned (.bool (!qs)) ∧ Below w'.heap.size w' w'') := by
       show ∀ w', _
       intro w' hc
       rw [← hqs]
       exact shape_any w' _ _ _ _ _ _ _ _ _ _ _ _ _ (Kd.keep (Keep.below (hb1.trans (hc.mono hb1.size))) _ hxk0) (by omega)
     have HEE : Hid (∀ w', Below W1.heap.size W1 w' → Rw w' .ex (.slice A1 e.length n1) e ∧ KdL w' e) := by
       show ∀ w', _
       intro w' hc
       have K := Keep.below (hb1.trans (hc.mono hb1.size))
       exact ⟨hxk.2.1.1.keep K, KdL.keep K _ hxk.2.1.2⟩
     have HA : Hid (qd = false → ∀ w', Below W1.heap.size W1 w' → Calls Tryz.prog 48 #[.slice A2 a.length n2, .int .i64 (dI + 1), .bool false] w' fun r w'' => r = .returned (.bool (!qA)) ∧ Below w'.heap.size w' w'') := by
       show _ → ∀ w', _
       intro hqd0 w' hc
       have hd40 : d ≤ 40 := by have := HDD.out; rw [hqd0] at this; simpa using this
       have K := Keep.below (hb1.trans (hc.mono hb1.size))
       rw [← hqA]
       have := HDI.out; have := HD.out
       exact ih (sizeL a) (by omega) w' _ a (d + 1) (dI + 1) false (Nat.le_refl _) (by omega) (hxk.2.2.1.1.keep K) (KdL.keep K _ hxk.2.2.1.2) (by omega) (by omega)
     have HBb : Hid (qd = false → ∀ w', Below W1.heap.size W1 w' → Calls Tryz.prog 48 #[.slice A3 b.length n3, .int .i64 (dI + 1), .bool false] w' fun r w'' => r = .returned (.bool (!qB)) ∧ Below w'.heap.size w' w'') := by
       show _ → ∀ w', _
       intro hqd0 w' hc
       have hd40 : d ≤ 40 := by have := HDD.out; rw [hqd0] at this; simpa using this
       have K := Keep.below (hb1.trans (hc.mono hb1.size))
       rw [← hqB]
       have := HDI.out; have := HD.out
       exact ih (sizeL b) (by omega) w' _ b (d + 1) (dI + 1) false (Nat.le_refl _) (by omega) (hxk.2.2.2.1.1.keep K) (KdL.keep K _ hxk.2.2.2.1.2) (by omega) (by omega)
     have HC : Hid (qd = false → ∀ w', Below W1.heap.size W1 w' → Calls Tryz.prog 48 #[.slice A4 c.length n4, .int .i64 (dI + 1), .bool false] w' fun r w'' => r = .returned (.bool (!qC)) ∧ Below w'.heap.size w' w'') := by
       show _ → ∀ w', _
       intro hqd0 w' hc
       have hd40 : d ≤ 40 := by have := HDD.out; rw [hqd0] at this; simpa using this
       have K := Keep.below (hb1.trans (hc.mono hb1.size))
       rw [← hqC]
       have := HDI.out; have := HD.out
       exact ih (sizeL c) (by omega) w' _ c (d + 1) (dI + 1) false (Nat.le_refl _) (by omega) (hxk.2.2.2.2.1.keep K) (KdL.keep K _ hxk.2.2.2.2.2) (by omega) (by omega)
     have hes : sizeL e ≤ 1000000 := by omega
     have hel : e.length ≤ 1000000 := by have := len_sizeL e; omega
     have HES := Lib.hid hes
     have x0 := hc 0 _ rfl; have x1 := hc 1 _ rfl; have x2 := hc 2 _ rfl; have x3 := hc 3 _ rfl; have x4 := hc 4 _ rfl; have x5 := hc 5 _ rfl; have x6 := hc 6 _ rfl; have x7 := hc 7 _ rfl; have x8 := hc 8 _ rfl
     simp only [Tg.sz, Nat.add_zero] at x0 x1 x2 x3 x4 x5 x6 x7 x8
     obtain ⟨y0, y1, y2, y3, y4, y5, y6, y7, y8⟩ := hx1.get_9
     clear hc hxk hxk0 hx hsz hxt K hB hxs hsk ih hqs hqE hqA hqB hqC hqR hb1 hx1 hes
     have hC0 : Below W1.heap.size W1 W1 := Below.refl _ _
     go_wp2_with (go_at_call 68; refine (HSH.out _ hC0).mono ?_; clear HSH; rintro r' w1 ⟨rfl, hC1⟩)
     all_goals first
       | (go_ret
          exact ⟨ret_bool (by rw [← HSK.out]; simp [*]), HW1.out.trans (hC1.mono HW1.out.size)⟩)
       | (go_ret
          exact ⟨ret_bool (by rw [← HSK.out]; simp [*]), HW1.out⟩)
       | skip
     all_goals
       have HSR := Lib.hid (show (qE && (!qA && (!qB && (!qC && qR)))) = r by rw [← HSK.out]; simp [*, Bool.and_assoc])
       obtain rfl : qd = false := by simp [*]
       obtain rfl : qs = false := by simp [*]
       try simp only [Bool.not_false]
       have hd40 : d ≤ 40 := by have := HDD.out; simpa using this
       have hdI40 : dI ≤ 40 := by have := HDI.out; omega
       replace HA := HA.out rfl; replace HBb := HBb.out rfl; replace HC := HC.out rfl
       have HA := Lib.hid HA; have HBb := Lib.hid HBb; have HC := Lib.hid HC
       clear x0 x1 x2 x3 x4 x5 x6 x7 x8 y0 y1 y2 y3 y4 y5 y6 y7 y8
       obtain ⟨_, _, _, _, y4, y5, y6, y7, _⟩ := (HX1.out _ hC1).get_9
       go_loopw [9] (fun v9 wx => ∃ j : Nat, v9 = .int .i64 j ∧ j ≤ e.length ∧ (e.take j).all (fun y => okT y d) = true ∧ Below W1.heap.size W1 wx) (fun v9 wx => e.length - (intOf v9).toNat)
       case atStart => exact ⟨0, rfl, Nat.zero_le _, by simp, hC1⟩
       case round =>
         obtain ⟨j, rfl, hjn, hall, hD⟩ := hrel
         have HALL := Lib.hid hall
         clear hall y4 y5 y6 y7
         obtain ⟨_, _, _, _, y4, y5, y6, y7, _⟩ := (HX1.out _ hD).get_9
         by_cases hjl : j < e.length
         · obtain ⟨hRe, hKe⟩ := HEE.out _ hD
           obtain ⟨g, go, z, rfl, hz, hzt, hcz⟩ := hRe.get hjl
           have hzk := KdL.mem_get hKe hz
           have hzs := size_mem (List.mem_of_getElem? hz)
           cases z <;> first | (simp [Nd.tag] at hzt; done) | skip
           rename_i zk zn ztx znm zty zv zl zown znth
           have hzz : (Nd.ex zk zn ztx znm zty zv zl zown znth).size = 1 + sizeL zl := by simp [Nd.size]
           obtain ⟨tt, htt⟩ : ∃ t, okT (.ex zk zn ztx znm zty zv zl zown znth) d = t := ⟨_, rfl⟩
           have HCALL := Lib.hid (may_ex (sizeL zl) _ zk zn ztx znm zty zv zl zown znth d dI (Nat.le_refl _) (by have := HES.out; omega) hzk HDI.out (by have := HD.out; omega))
           rw [htt] at HCALL
           obtain ⟨zA, zc, rfl⟩ := (by rw [Kd] at hzk; exact hzk.2.1.form : ∃ A cap, zv = .slice A zl.length cap)
           have c0 := hcz 0 _ rfl; have c1 := hcz 1 _ rfl; have c2 := hcz 2 _ rfl; have c3 := hcz 3 _ rfl; have c4 := hcz 4 _ rfl; have c5 := hcz 5 _ rfl; have c6 := hcz 6 _ rfl; have c7 := hcz 7 _ rfl
           simp only [Tg.sz, Nat.add_zero] at c0 c1 c2 c3 c4 c5 c6 c7
           have HTT := Lib.hid htt
           have HZ := Lib.hid hz
           clear htt hz hcz hzt hzk hzs hzz hRe hKe
           cases tt
           · have HF := Lib.hid (show r = false by rw [← HSR.out, ← HQE.out, all_false HZ.out (fun y => okT y d) HTT.out]; rfl)
             go_wp2_with (go_at_call 21; refine HCALL.out.mono ?_; clear HCALL; rintro r' w2 ⟨rfl, hb2⟩)
             have hD2 := hD.trans (hb2.mono hD.size)
             go_ret
             exact ⟨ret_bool HF.out.symm, HW1.out.trans (hD2.mono HW1.out.size)⟩
           · have HN := Lib.hid (show (e.take (j + 1)).all (fun y => okT y d) = true by rw [all_take_succ HZ.out, HALL.out, HTT.out]; rfl)
             go_wp2_with (go_at_call 21; refine HCALL.out.mono ?_; clear HCALL; rintro r' w2 ⟨rfl, hb2⟩)
             have hD2 := hD.trans (hb2.mono hD.size)
             go_roundw
             case rel => exact ⟨j + 1, by go_num, by omega, HN.out, hD2⟩
             case measure => simp [intOf]; omega
         · have hqe1 : qE = true := by rw [← HQE.out, ← HALL.out, List.take_of_length_le (by omega)]
           have HST := Lib.hid (show (!qA && (!qB && (!qC && qR))) = r by rw [← HSR.out, hqe1]; rfl)
           clear hqe1
           go_wp2_with (first
             | (go_at_call_of 48 (Value.slice A2 a.length n2); refine (HA.out _ hD).mono ?_; clear HA; rintro r' w2 ⟨rfl, hb2⟩; have hD2 := hD.trans (hb2.mono hD.size); clear hb2; obtain ⟨_, _, _, _, _, y5, y6, y7, _⟩ := (HX1.out _ hD2).get_9)
             | (go_at_call_of 48 (Value.slice A3 b.length n3); refine (HBb.out _ hD2).mono ?_; clear HBb; rintro r' w3 ⟨rfl, hb3⟩; have hD3 := hD2.trans (hb3.mono hD2.size); clear hb3; obtain ⟨_, _, _, _, _, _, y6, y7, _⟩ := (HX1.out _ hD3).get_9)
             | (go_at_call_of 48 (Value.slice A4 c.length n4); refine (HC.out _ hD3).mono ?_; clear HC; rintro r' w4 ⟨rfl, hb4⟩; have hD4 := hD3.trans (hb4.mono hD3.size); clear hb4))
           all_goals first
             | (go_roundw
                case rel => exact ⟨k + 1, by first | go_num | (simp [*]; done) | (simp [*]; go_num), by omega, by rw [HQR.out, ← HST.out]; simp [*], HW1.out.trans (hD4.mono HW1.out.size)⟩
                case measure => simp [intOf]; omega)
             | (go_ret
                exact ⟨ret_bool (by rw [← HST.out]; simp [*]), HW1.out.trans (hD4.mono HW1.out.size)⟩)
             | (go_ret
                exact ⟨ret_bool (by rw [← HST.out]; simp [*]), HW1.out.trans (hD3.mono HW1.out.size)⟩)
             | (go_ret
                exact ⟨ret_bool (by rw [← HST.out]; simp [*]), HW1.out.trans (hD2.mono HW1.out.size)⟩)
   · have hF : r = true := by rw [← hsk, List.drop_eq_nil_of_le (by rw [HLN.out]; omega), stB_nil]
     have HF := Lib.hid hF
     clear ih hsk hF
     go_wp2_with fail
     go_ret
     exact ⟨ret_bool HF.out.symm, hB⟩
theorem may_sts : ∀ s, StsSaid s := by
 intro s
 induction s using Nat.strongRecOn with
 | ind s ih =>
   intro w v l d dI sup hl hs hr hk hdI hd
   cases sup
   · exact may_sts_false s ih w v l d dI hl hs hr hk hdI hd
   · exact may_sts_true s ih w v l d dI hl hs hr hk hdI hd
end
section
open Go.RowKit
theorem okT_mt (s c : Bool) (ty nm : ByteArray) (vp : Value) (ps : List Prm) (v : Value) (l : List Nd) (hl : ∀ x ∈ l, x.tag = .st) : okT (.mt s c ty nm vp ps v l) 0 = (decide (ps.length ≤ 6) && (fitP ps && ((if c then (!s && (emp ty && emp nm)) else ((ty.toList == [118, 111, 105, 100] || valT ty) && nameOk nm)) && stB c 0 1 l))) := by
 rw [okT_eq]
 have hS : ∀ y : Nd, y.tag = .st → stepN (.mt s c ty nm vp ps v l) y = 1 := fun y hy => by unfold stepN; rw [hy]; rfl
 have h1 : l.all (fun y => okT y (0 + stepN (.mt s c ty nm vp ps v l) y)) = l.all (fun y => okT y 1) := all_on fun x hx => by rw [hS x (hl x hx)]
 simp only [Nd.kids, h1, fitsB, fitM, stB]
 cases c
 · simp only [Bool.false_and, Bool.false_eq_true, if_false]
   generalize decide (ps.length ≤ 6) = u0; generalize fitP ps = u1; generalize hasSup l = u2; generalize l.all (fun y => okT y 1) = u3; generalize nameOk nm = u4; generalize (ty.toList == [118, 111, 105, 100]) = u5; generalize valT ty = u6
   cases u0 <;> cases u1 <;> cases u2 <;> cases u3 <;> cases u4 <;> cases u5 <;> cases u6 <;> rfl
 · simp only [beq_self_eq_true, Bool.and_self, if_true]
   generalize decide (ps.length ≤ 6) = u0; generalize fitP ps = u1; generalize hasSup (l.drop 1) = u2; generalize l.all (fun y => okT y 1) = u3; generalize emp ty = u4; generalize emp nm = u5
   cases u0 <;> cases u1 <;> cases u2 <;> cases u3 <;> cases u4 <;> cases u5 <;> cases s <;> rfl
theorem fitP_take {ps : List Prm} {k : Nat} {x : Prm} (h : ps[k]? = some x) : fitP (ps.take (k + 1)) = (fitP (ps.take k) && (valT x.1 && nameOk x.2)) := by
 unfold fitP; rw [List.take_add_one, h]; simp [List.all_append]
theorem fitP_false {ps : List Prm} {k : Nat} {x : Prm} (h : ps[k]? = some x) (hf : (valT x.1 && nameOk x.2) = false) : fitP ps = false := by
 unfold fitP; rw [List.all_eq_false]; exact ⟨x, List.mem_of_getElem? h, by rw [hf]; simp⟩
theorem may_mt_true (w : World) (s : Bool) (ty nm : ByteArray) (vp : Value) (ps : List Prm) (v : Value) (l : List Nd) (hk : Kd w (.mt s true ty nm vp ps v l)) (hl : sizeL l ≤ 1000000) :
   Calls Tryz.prog 22 #[.agg #[.bool s, .bool true, .string ty, .string nm, vp, v]] w fun r w' => r = .returned (.bool (okT (.mt s true ty nm vp ps v l) 0)) ∧ Below w.heap.size w w' := by
 rw [Kd] at hk
 obtain ⟨A, cap, rfl, hpm⟩ := hk.2.1.form
 obtain ⟨B, bap, rfl⟩ := hk.2.2.1.form
 unfold maxLen at hpm
 obtain ⟨r, hr⟩ : ∃ r, okT (.mt s true ty nm (.slice A ps.length cap) ps (.slice B l.length bap) l) 0 = r := ⟨_, rfl⟩
 rw [hr]
 rw [okT_mt _ _ _ _ _ _ _ _ hk.2.2.1.tags] at hr
 obtain ⟨n, hn⟩ : ∃ n, ps.length = n := ⟨_, rfl⟩
 rw [hn] at hk hpm hr ⊢
 obtain ⟨W, hW⟩ : ∃ W, w.alloc (.cells #[.bool s, .bool true, .string ty, .string nm, .slice A n cap, .slice B l.length bap] 48) = W := ⟨_, rfl⟩
 have hb : Below w.heap.size w W := by rw [← hW]; exact (Below.refl _ w).alloc (Nat.le_refl _) _
 have hx : Bx W w.heap.size #[.bool s, .bool true, .string ty, .string nm, .slice A n cap, .slice B l.length bap] 48 := by rw [← hW]; exact Bx.new _ _ _
 have HW := Lib.hid hb
 have HX : Hid (∀ w', Below W.heap.size W w' → Bx w' w.heap.size #[.bool s, .bool true, .string ty, .string nm, .slice A n cap, .slice B l.length bap] 48) := by
   show ∀ w', _
   intro w' hc; exact hx.next hc
 have HP : Hid (∀ w', Below W.heap.size W w' → Pw w' (.slice A n cap) ps) := by
   show ∀ w', _
   intro w' hc; exact hk.2.1.keep (Keep.below (hb.trans (hc.mono hb.size)))
 have HPS : Hid (∀ x ∈ ps, x.1.size ≤ maxLen ∧ x.2.size ≤ maxLen) := by obtain ⟨_, _, _, _, h, _⟩ := hk.2.1; exact h
 have HLN := Lib.hid hn
 obtain ⟨qF, hqF⟩ : ∃ q, fitP ps = q := ⟨_, rfl⟩
 obtain ⟨qS, hqS⟩ : ∃ q, stB true 0 1 l = q := ⟨_, rfl⟩
 have HCS : Hid (∀ w', Below W.heap.size W w' → Calls Tryz.prog 48 #[.slice B l.length bap, .int .i64 1, .bool true] w' fun r w'' => r = .returned (.bool qS) ∧ Below w'.heap.size w' w'') := by
   show ∀ w', _
   intro w' hc
   have K := Keep.below (hb.trans (hc.mono hb.size))
   rw [← hqS]
   exact may_sts (sizeL l) w' _ l 1 1 true (Nat.le_refl _) hl (hk.2.2.1.keep K) (KdL.keep K _ hk.2.2.2) rfl (by omega)
 obtain ⟨qle, hqle⟩ : ∃ q, decide (6 < (n : Int)) = q := ⟨_, rfl⟩
 have hle2 : decide (n ≤ 6) = !qle := by rw [← hqle, Bool.eq_iff_iff]; simp; omega
 obtain ⟨qty, hqty⟩ : ∃ q, (!ty.toList.isEmpty) = q := ⟨_, rfl⟩
 obtain ⟨qnm, hqnm⟩ : ∃ q, (!nm.toList.isEmpty) = q := ⟨_, rfl⟩
 have e1 : emp ty = !qty := by rw [← hqty, Bool.not_not]; rfl
 have e2 : emp nm = !qnm := by rw [← hqnm, Bool.not_not]; rfl
 simp only [hqF, hqS, hle2, e1, e2, if_true] at hr
 have HR := Lib.hid hr
 have HQF := Lib.hid hqF
 clear e1 e2 hle2 hk hb hr hn hqF hqS
 have hB : Below W.heap.size W W := Below.refl _ _
 obtain ⟨x0, x1, x2, x3, x4, x5⟩ := hx.get_6
 clear hx
 go_enter Tryz.func22, Tryz.ntmps22
 go_wp2_with fail
 all_goals first
   | (go_ret
      exact ⟨ret_bool (by rw [← HR.out]; simp [*]), HW.out.trans (hB.mono HW.out.size)⟩)
   | skip
 all_goals
   have HSR := Lib.hid (show (qF && qS) = r by rw [← HR.out]; simp [*])
   obtain rfl : qle = false := by simp [*]
   try simp only [Bool.not_false]
   clear x0 x1 x2 x3 x4 x5
   obtain ⟨_, x1, _, _, x4, x5⟩ := (HX.out _ hB).get_6
   go_loopw [3] (fun v3 wr => ∃ k : Nat, v3 = .int .i64 k ∧ k ≤ n ∧ fitP (ps.take k) = true ∧ Below W.heap.size W wr) (fun v3 wr => n - (intOf v3).toNat)
   case atStart => exact ⟨0, rfl, Nat.zero_le _, rfl, hB⟩
   case round =>
     obtain ⟨k, rfl, hkn, hfp, hC⟩ := hrel
     have HFP := Lib.hid hfp
     clear hfp hB x1 x4 x5
     obtain ⟨_, x1, _, _, x4, x5⟩ := (HX.out _ hC).get_6
     by_cases hlt : k < n
     · obtain ⟨g, go, x, rfl, hx, c0, c1⟩ := (HP.out _ hC).at.2 k hlt
       have hxs := HPS.out x (List.mem_of_getElem? hx)
       obtain ⟨pt, hpt⟩ : ∃ q, valT x.1 = !q := ⟨!valT x.1, by simp⟩
       obtain ⟨pn, hpn⟩ : ∃ q, nameOk x.2 = !q := ⟨!nameOk x.2, by simp⟩
       have PT : Hid (∀ w', Calls Tryz.prog 19 #[.string x.1] w' fun r w'' => r = .returned (.bool (!pt)) ∧ w' = w'') := by
         show ∀ w', _
         intro w'; rw [← hpt]; exact rtype_any x.1 w' hxs.1
       have PN : Hid (∀ w', Calls Tryz.prog 20 #[.string x.2] w' fun r w'' => r = .returned (.bool (!pn)) ∧ Below w'.heap.size w' w'') := by
         show ∀ w', _
         intro w'; rw [← hpn]; exact rname_any x.2 w' hxs.2
       have HXX := Lib.hid hx
       have HVN := Lib.hid (show (valT x.1 && nameOk x.2) = (!pt && !pn) by rw [hpt, hpn])
       clear hx hxs hpt hpn
       go_wp2_with (first
         | (go_at_call 19; refine (PT.out _).mono ?_; rintro r' wn ⟨rfl, rfl⟩)
         | (go_at_call 20; refine (PN.out _).mono ?_; rintro r' wn ⟨rfl, hc⟩; have hD := hC.trans (hc.mono hC.size); clear hc))
       all_goals first
         | (go_roundw
            case rel => exact ⟨k + 1, by go_num, by omega, by rw [fitP_take HXX.out, HFP.out, HVN.out]; simp [*], hD⟩
            case measure => simp [intOf]; omega)
         | (go_ret
            exact ⟨ret_bool (by rw [← HSR.out, ← HQF.out, fitP_false HXX.out (by rw [HVN.out]; simp [*])]; rfl), HW.out.trans (hD.mono HW.out.size)⟩)
         | (go_ret
            exact ⟨ret_bool (by rw [← HSR.out, ← HQF.out, fitP_false HXX.out (by rw [HVN.out]; simp [*])]; rfl), HW.out.trans (hC.mono HW.out.size)⟩)
     · have hqf1 : qF = true := by rw [← HQF.out, ← HFP.out, List.take_of_length_le (by rw [HLN.out]; omega)]
       have HST := Lib.hid (show qS = r by rw [← HSR.out, hqf1]; rfl)
       clear hqf1
       go_wp2_with (go_at_call 48; refine (HCS.out _ hC).mono ?_; clear HCS; rintro r' w2 ⟨rfl, hb2⟩)
       have hD := hC.trans (hb2.mono hC.size)
       go_ret
       exact ⟨ret_bool HST.out, HW.out.trans (hD.mono HW.out.size)⟩
theorem may_mt_false (w : World) (s : Bool) (ty nm : ByteArray) (vp : Value) (ps : List Prm) (v : Value) (l : List Nd) (hk : Kd w (.mt s false ty nm vp ps v l)) (hl : sizeL l ≤ 1000000) :
   Calls Tryz.prog 22 #[.agg #[.bool s, .bool false, .string ty, .string nm, vp, v]] w fun r w' => r = .returned (.bool (okT (.mt s false ty nm vp ps v l) 0)) ∧ Below w.heap.size w w' := by
 rw [Kd] at hk
 obtain ⟨A, cap, rfl, hpm⟩ := hk.2.1.form
 obtain ⟨B, bap, rfl⟩ := hk.2.2.1.form
 unfold maxLen at hpm
 obtain ⟨r, hr⟩ : ∃ r, okT (.mt s false ty nm (.slice A ps.length cap) ps (.slice B l.length bap) l) 0 = r := ⟨_, rfl⟩
 rw [hr]
 rw [okT_mt _ _ _ _ _ _ _ _ hk.2.2.1.tags] at hr
 obtain ⟨n, hn⟩ : ∃ n, ps.length = n := ⟨_, rfl⟩
 rw [hn] at hk hpm hr ⊢
 obtain ⟨W, hW⟩ : ∃ W, w.alloc (.cells #[.bool s, .bool false, .string ty, .string nm, .slice A n cap, .slice B l.length bap] 48) = W := ⟨_, rfl⟩
 have hb : Below w.heap.size w W := by rw [← hW]; exact (Below.refl _ w).alloc (Nat.le_refl _) _
 have hx : Bx W w.heap.size #[.bool s, .bool false, .string ty, .string nm, .slice A n cap, .slice B l.length bap] 48 := by rw [← hW]; exact Bx.new _ _ _
 have HW := Lib.hid hb
 have HX : Hid (∀ w', Below W.heap.size W w' → Bx w' w.heap.size #[.bool s, .bool false, .string ty, .string nm, .slice A n cap, .slice B l.length bap] 48) := by
   show ∀ w', _
   intro w' hc; exact hx.next hc
 have HP : Hid (∀ w', Below W.heap.size W w' → Pw w' (.slice A n cap) ps) := by
   show ∀ w', _
   intro w' hc; exact hk.2.1.keep (Keep.below (hb.trans (hc.mono hb.size)))
 have HPS : Hid (∀ x ∈ ps, x.1.size ≤ maxLen ∧ x.2.size ≤ maxLen) := by obtain ⟨_, _, _, _, h, _⟩ := hk.2.1; exact h
 have HLN := Lib.hid hn
 obtain ⟨qF, hqF⟩ : ∃ q, fitP ps = q := ⟨_, rfl⟩
 obtain ⟨qS, hqS⟩ : ∃ q, stB false 0 1 l = q := ⟨_, rfl⟩
 have HCS : Hid (∀ w', Below W.heap.size W w' → Calls Tryz.prog 48 #[.slice B l.length bap, .int .i64 1, .bool false] w' fun r w'' => r = .returned (.bool qS) ∧ Below w'.heap.size w' w'') := by
   show ∀ w', _
   intro w' hc
   have K := Keep.below (hb.trans (hc.mono hb.size))
   rw [← hqS]
   exact may_sts (sizeL l) w' _ l 1 1 false (Nat.le_refl _) hl (hk.2.2.1.keep K) (KdL.keep K _ hk.2.2.2) rfl (by omega)
 obtain ⟨qle, hqle⟩ : ∃ q, decide (6 < (n : Int)) = q := ⟨_, rfl⟩
 have hle2 : decide (n ≤ 6) = !qle := by rw [← hqle, Bool.eq_iff_iff]; simp; omega
 obtain ⟨qv, hqv⟩ : ∃ q, (ty.toList == [118, 111, 105, 100]) = q := ⟨_, rfl⟩
 obtain ⟨qt, hqt⟩ : ∃ q, valT ty = !q := ⟨!valT ty, by simp⟩
 obtain ⟨qn, hqn⟩ : ∃ q, nameOk nm = !q := ⟨!nameOk nm, by simp⟩
 have CT : Hid (∀ w', Calls Tryz.prog 19 #[.string ty] w' fun r w'' => r = .returned (.bool (!qt)) ∧ w' = w'') := by
   show ∀ w', _
   intro w'; rw [← hqt]; exact rtype_any ty w' hk.1.1
 have CN : Hid (∀ w', Calls Tryz.prog 20 #[.string nm] w' fun r w'' => r = .returned (.bool (!qn)) ∧ Below w'.heap.size w' w'') := by
   show ∀ w', _
   intro w'; rw [← hqn]; exact rname_any nm w' hk.1.2
 simp only [hqF, hqS, hle2, hqv, hqt, hqn, Bool.false_eq_true, if_false] at hr
 have HR := Lib.hid hr
 have HQF := Lib.hid hqF
 clear hle2 hk hb hr hn hqF hqS hqt hqn
 have hB : Below W.heap.size W W := Below.refl _ _
 obtain ⟨x0, x1, x2, x3, x4, x5⟩ := hx.get_6
 clear hx
 go_enter Tryz.func22, Tryz.ntmps22
 go_wp2_with (first
   | (go_at_call 20; refine (CN.out _).mono ?_; rintro r' wn ⟨rfl, hc⟩; have hB := hB.trans (hc.mono hB.size); clear hc; obtain ⟨x0, x1, x2, x3, x4, x5⟩ := (HX.out _ hB).get_6)
   | (go_at_call 19; refine (CT.out _).mono ?_; rintro r' wn ⟨rfl, rfl⟩))
 all_goals first
   | (go_ret
      exact ⟨ret_bool (by rw [← HR.out]; simp [*]), HW.out.trans (hB.mono HW.out.size)⟩)
   | skip
 all_goals
   have HSR := Lib.hid (show (qF && qS) = r by rw [← HR.out]; simp [*])
   obtain rfl : qle = false := by simp [*]
   try simp only [Bool.not_false]
   clear x0 x1 x2 x3 x4 x5
   obtain ⟨_, x1, _, _, x4, x5⟩ := (HX.out _ hB).get_6
   go_loopw [3] (fun v3 wr => ∃ k : Nat, v3 = .int .i64 k ∧ k ≤ n ∧ fitP (ps.take k) = true ∧ Below W.heap.size W wr) (fun v3 wr => n - (intOf v3).toNat)
   case atStart => exact ⟨0, rfl, Nat.zero_le _, rfl, hB⟩
   case round =>
     obtain ⟨k, rfl, hkn, hfp, hC⟩ := hrel
     have HFP := Lib.hid hfp
     clear hfp hB x1 x4 x5
     obtain ⟨_, x1, _, _, x4, x5⟩ := (HX.out _ hC).get_6
     by_cases hlt : k < n
     · obtain ⟨g, go, x, rfl, hx, c0, c1⟩ := (HP.out _ hC).at.2 k hlt
       have hxs := HPS.out x (List.mem_of_getElem? hx)
       obtain ⟨pt, hpt⟩ : ∃ q, valT x.1 = !q := ⟨!valT x.1, by simp⟩
       obtain ⟨pn, hpn⟩ : ∃ q, nameOk x.2 = !q := ⟨!nameOk x.2, by simp⟩
       have PT : Hid (∀ w', Calls Tryz.prog 19 #[.string x.1] w' fun r w'' => r = .returned (.bool (!pt)) ∧ w' = w'') := by
         show ∀ w', _
         intro w'; rw [← hpt]; exact rtype_any x.1 w' hxs.1
       have PN : Hid (∀ w', Calls Tryz.prog 20 #[.string x.2] w' fun r w'' => r = .returned (.bool (!pn)) ∧ Below w'.heap.size w' w'') := by
         show ∀ w', _
         intro w'; rw [← hpn]; exact rname_any x.2 w' hxs.2
       have HXX := Lib.hid hx
       have HVN := Lib.hid (show (valT x.1 && nameOk x.2) = (!pt && !pn) by rw [hpt, hpn])
       clear hx hxs hpt hpn
       go_wp2_with (first
         | (go_at_call 19; refine (PT.out _).mono ?_; rintro r' wn ⟨rfl, rfl⟩)
         | (go_at_call 20; refine (PN.out _).mono ?_; rintro r' wn ⟨rfl, hc⟩; have hD := hC.trans (hc.mono hC.size); clear hc))
       all_goals first
         | (go_roundw
            case rel => exact ⟨k + 1, by go_num, by omega, by rw [fitP_take HXX.out, HFP.out, HVN.out]; simp [*], hD⟩
            case measure => simp [intOf]; omega)
         | (go_ret
            exact ⟨ret_bool (by rw [← HSR.out, ← HQF.out, fitP_false HXX.out (by rw [HVN.out]; simp [*])]; rfl), HW.out.trans (hD.mono HW.out.size)⟩)
         | (go_ret
            exact ⟨ret_bool (by rw [← HSR.out, ← HQF.out, fitP_false HXX.out (by rw [HVN.out]; simp [*])]; rfl), HW.out.trans (hC.mono HW.out.size)⟩)
     · have hqf1 : qF = true := by rw [← HQF.out, ← HFP.out, List.take_of_length_le (by rw [HLN.out]; omega)]
       have HST := Lib.hid (show qS = r by rw [← HSR.out, hqf1]; rfl)
       clear hqf1
       go_wp2_with (go_at_call 48; refine (HCS.out _ hC).mono ?_; clear HCS; rintro r' w2 ⟨rfl, hb2⟩)
       have hD := hC.trans (hb2.mono hC.size)
       go_ret
       exact ⟨ret_bool HST.out, HW.out.trans (hD.mono HW.out.size)⟩
theorem may_mt (w : World) (s c : Bool) (ty nm : ByteArray) (vp : Value) (ps : List Prm) (v : Value) (l : List Nd) (hk : Kd w (.mt s c ty nm vp ps v l)) (hl : sizeL l ≤ 1000000) :
   Calls Tryz.prog 22 #[.agg #[.bool s, .bool c, .string ty, .string nm, vp, v]] w fun r w' => r = .returned (.bool (okT (.mt s c ty nm vp ps v l) 0)) ∧ Below w.heap.size w w' := by
 cases c
 · exact may_mt_false w s ty nm vp ps v l hk hl
 · exact may_mt_true w s ty nm vp ps v l hk hl
end
end Go.Proofs.YtnbfajmdfkgebaaGreatDoor
