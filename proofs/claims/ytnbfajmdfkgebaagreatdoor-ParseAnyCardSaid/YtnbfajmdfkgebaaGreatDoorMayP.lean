/- Parts of the proof: MayP. -/
import Derived.Test.YtnbfajmdfkgebaaGreatDoorP28
import Derived.Test.YtnbfajmdfkgebaaGreatDoorP1
set_option maxHeartbeats 16000000
set_option maxRecDepth 100000
set_option linter.unusedSimpArgs false
set_option linter.unusedVariables false
namespace Go.Proofs.YtnbfajmdfkgebaaGreatDoor
open Go.RowKit
theorem okT_fd (s : Bool) (ty nm : ByteArray) (v : Value) (l : List Nd) (h : ∀ x ∈ l, x.tag = .ex) : okT (.fd s ty nm v l) 0 = (valT ty && (nameOk nm && (decide (l.length ≤ 1) && l.all fun y => okT y 1))) := by
 rw [okT_eq]
 have h1 : l.all (fun y => okT y (0 + stepN (.fd s ty nm v l) y)) = l.all (fun y => okT y 1) := all_on fun x hx => by
   have : stepN (.fd s ty nm v l) x = 1 := by unfold stepN; rw [h x hx]; rfl
   rw [this]
 simp only [Nd.kids, h1, fitsB]
 simp [Bool.and_assoc]
theorem okT_cl (nm sp : ByteArray) (vf vm : Value) (f m : List Nd) : okT (.cl nm sp vf vm f m) 0 = (classOk nm && ((emp sp || classOk sp) && (decide (f.length ≤ 30) && (decide (m.length ≤ 30) && (f.all (fun y => okT y 0) && m.all fun y => okT y 0))))) := by
 rw [okT_eq]
 have h1 : ∀ l : List Nd, l.all (fun y => okT y (0 + stepN (.cl nm sp vf vm f m) y)) = l.all (fun y => okT y 0) := fun l => all_on fun x hx => by
   have : stepN (.cl nm sp vf vm f m) x = 0 := by unfold stepN; cases x.tag <;> rfl
   rw [this]
 simp only [Nd.kids, List.all_append, h1, fitsB]
 simp [Bool.and_assoc]
theorem ref_may_any (w : World) (v : Value) (l : List Nd) (hr : Rw w .cl v l) (hk : KdL w l) (hs : sizeL l ≤ 1000000) (r : Bool) (hres : mayB l = r) : Calls Tryz.prog 8 #[.agg #[v]] w fun e w' => e = .returned (.bool r) ∧ Below w.heap.size w w' := by
 obtain ⟨A, cap, rfl⟩ := hr.form
 have hlen : l.length ≤ 1000000 := by have := len_sizeL l; omega
 obtain ⟨n, hn⟩ : ∃ n, l.length = n := ⟨_, rfl⟩
 obtain ⟨N, hN⟩ : ∃ N, sizeL l = N := ⟨_, rfl⟩
 rw [hn] at hr hlen ⊢
 have hres0 := hres
 unfold mayB at hres
 rw [hn, hN] at hres
 obtain ⟨W0, hW0⟩ : ∃ W0, w.alloc (.cells #[.slice A n cap] 25) = W0 := ⟨_, rfl⟩
 have hb0 : Below w.heap.size w W0 := by rw [← hW0]; exact (Below.refl _ w).alloc (Nat.le_refl _) _
 have hx0 : Bx W0 w.heap.size #[.slice A n cap] 25 := by rw [← hW0]; exact Bx.new _ _ _
 have HC0 : Hid (∀ w', Below W0.heap.size W0 w' → w'.cell? ⟨w.heap.size, 0, none⟩ = some (.slice A n cap)) := by
   show ∀ w', _
   intro w' hb; exact (hx0.next hb).cell 0
 have HRK : Hid (∀ w', Below W0.heap.size W0 w' → Rw w' .cl (.slice A n cap) l ∧ KdL w' l) := by
   show ∀ w', _
   intro w' hb
   have K := Keep.below (hb0.trans (hb.mono hb0.size))
   exact ⟨hr.keep K, KdL.keep K _ hk⟩
 have HND : Hid (∀ w', Below W0.heap.size W0 w' → Calls Tryz.prog 17 #[.agg #[.slice A n cap]] w' fun e w'' => e = .returned (.int .i64 (N : Nat)) ∧ Below w'.heap.size w' w'') := by
   show ∀ w', _
   intro w' hb
   have K := Keep.below (hb0.trans (hb.mono hb0.size))
   rw [← hN]
   exact ref_nodes_any w' _ l (hr.keep K) (KdL.keep K _ hk) hs
 have HLN := Lib.hid hn
 have HB0 := Lib.hid hb0
 have HSZ : Hid (∀ x ∈ l, x.size ≤ 1000000) := by show ∀ x ∈ l, _; intro x hx; exact Nat.le_trans (size_mem hx) hs
 obtain ⟨q1, hq1⟩ : ∃ q, decide (20 < (n : Int)) = q := ⟨_, rfl⟩
 obtain ⟨q2, hq2⟩ : ∃ q, decide (3000 < (N : Int)) = q := ⟨_, rfl⟩
 have e1 : decide (n ≤ 20) = !q1 := by rw [← hq1, Bool.eq_iff_iff]; simp; omega
 have e2 : decide (N ≤ 3000) = !q2 := by rw [← hq2, Bool.eq_iff_iff]; simp; omega
 rw [e1, e2] at hres
 have HR := Lib.hid hres
 have hB : Below W0.heap.size W0 W0 := Below.refl _ _
 have c0 := HC0.out _ hB
 clear hr hk hn hb0 hx0 e1 e2 hres hres0
 go_enter Tryz.func8, Tryz.ntmps8
 go_wp2_with (go_at_call 17; refine (HND.out _ hB).mono ?_; clear HND; rintro e w1 ⟨rfl, hb1⟩; have hB := hB.trans (hb1.mono hB.size); clear hb1; have c0 := HC0.out _ hB)
 all_goals first
   | (go_ret
      exact ⟨ret_bool (by rw [← HR.out]; simp [*]), HB0.out.trans (hB.mono HB0.out.size)⟩)
   | skip
 all_goals
   have HALL := Lib.hid (show l.all (fun x => okT x 0) = r by rw [← HR.out]; simp [*])
   obtain rfl : q1 = false := by simp [*]
   obtain rfl : q2 = false := by simp [*]
   try simp only [Bool.not_false]
   have HR0 := Lib.hid (show (l.drop 0).all (fun x => okT x 0) = r from HALL.out)
   clear hq1 hq2 c0 HALL HR
   go_loopw [3] (fun v3 wr => ∃ k : Nat, v3 = .int .i64 k ∧ k ≤ n ∧ (l.drop k).all (fun x => okT x 0) = r ∧ Below W0.heap.size W0 wr) (fun v3 wr => n - (intOf v3).toNat)
   case atStart => exact ⟨0, rfl, Nat.zero_le _, HR0.out, hB⟩
   case round =>
     obtain ⟨k, rfl, hkn, hsk, hC⟩ := hrel
     clear HR0 hB
     have c0 := HC0.out _ hC
     by_cases hlt : k < n
     · obtain ⟨hR, hK⟩ := HRK.out _ hC
       obtain ⟨b, o, x, rfl, hx, hxt, hc⟩ := hR.get hlt
       have hxk := KdL.mem_get hK hx
       have hxs := HSZ.out x (List.mem_of_getElem? hx)
       rw [drop_got hx, List.all_cons] at hsk
       cases x <;> first | (simp [Nd.tag] at hxt; done) | skip
       rename_i xnm xsp vf vm f m
       rw [okT_cl] at hsk
       have c0' := hc 0 _ rfl; have c1' := hc 1 _ rfl; have c2' := hc 2 _ rfl; have c3' := hc 3 _ rfl
       simp only [Tg.sz, Nat.add_zero] at c0' c1' c2' c3'
       rw [Kd] at hxk
       simp only [Nd.size] at hxs
       obtain ⟨A1, n1, rfl⟩ := hxk.2.1.1.form
       obtain ⟨A2, n2, rfl⟩ := hxk.2.2.1.form
       obtain ⟨fn, hfn⟩ : ∃ q, f.length = q := ⟨_, rfl⟩
       obtain ⟨mn, hmn⟩ : ∃ q, m.length = q := ⟨_, rfl⟩
       have hfm : fn ≤ 1000000 := by have := len_sizeL f; omega
       have hmm : mn ≤ 1000000 := by have := len_sizeL m; omega
       rw [hfn] at c2' hxk hsk; rw [hmn] at c3' hxk hsk
       obtain ⟨qc, hqc⟩ : ∃ q, classOk xnm = !q := ⟨!classOk xnm, by simp⟩
       obtain ⟨qp, hqp⟩ : ∃ q, classOk xsp = !q := ⟨!classOk xsp, by simp⟩
       obtain ⟨qs, hqs⟩ : ∃ q, (!xsp.toList.isEmpty) = q := ⟨_, rfl⟩
       have e3 : emp xsp = !qs := by rw [← hqs, Bool.not_not]; rfl
       obtain ⟨qf, hqf⟩ : ∃ q, decide (30 < (fn : Int)) = q := ⟨_, rfl⟩
       obtain ⟨qm, hqm⟩ : ∃ q, decide (30 < (mn : Int)) = q := ⟨_, rfl⟩
       have e4 : decide (fn ≤ 30) = !qf := by rw [← hqf, Bool.eq_iff_iff]; simp; omega
       have e5 : decide (mn ≤ 30) = !qm := by rw [← hqm, Bool.eq_iff_iff]; simp; omega
       obtain ⟨qF, hqF⟩ : ∃ q, f.all (fun y => okT y 0) = q := ⟨_, rfl⟩
       obtain ⟨qM, hqM⟩ : ∃ q, m.all (fun y => okT y 0) = q := ⟨_, rfl⟩
       obtain ⟨qR, hqR⟩ : ∃ q, (l.drop (k + 1)).all (fun x => okT x 0) = q := ⟨_, rfl⟩
       rw [hqc, e3, hqp, e4, e5, hqF, hqM, hqR] at hsk
       have HSK := Lib.hid hsk
       have HQF := Lib.hid hqF; have HQM := Lib.hid hqM; have HQR := Lib.hid hqR
       have HFN := Lib.hid hfn; have HMN := Lib.hid hmn
       have HXS := Lib.hid hxs
       have CA : Hid (∀ w', Calls Tryz.prog 18 #[.string xnm] w' fun e w'' => e = .returned (.bool (!qc)) ∧ w' = w'') := by
         show ∀ w', _
         intro w'; rw [← hqc]; exact rclass_any xnm w' hxk.1.1
       have CB : Hid (∀ w', Calls Tryz.prog 18 #[.string xsp] w' fun e w'' => e = .returned (.bool (!qp)) ∧ w' = w'') := by
         show ∀ w', _
         intro w'; rw [← hqp]; exact rclass_any xsp w' hxk.1.2
       obtain ⟨W1, hW1⟩ : ∃ W1, wr.alloc (.cells #[.string xnm, .string xsp, .slice A1 fn n1, .slice A2 mn n2] 44) = W1 := ⟨_, rfl⟩
       have hb1 : Below wr.heap.size wr W1 := by rw [← hW1]; exact (Below.refl _ wr).alloc (Nat.le_refl _) _
       have hx1 : Bx W1 wr.heap.size #[.string xnm, .string xsp, .slice A1 fn n1, .slice A2 mn n2] 44 := by rw [← hW1]; exact Bx.new _ _ _
       have HX1 : Hid (∀ w', Below W1.heap.size W1 w' → w'.cell? ⟨wr.heap.size, 2, none⟩ = some (.slice A1 fn n1) ∧ w'.cell? ⟨wr.heap.size, 3, none⟩ = some (.slice A2 mn n2)) := by
         show ∀ w', _
         intro w' hc; exact ⟨(hx1.next hc).cell 2, (hx1.next hc).cell 3⟩
       have HF1 : Hid (∀ w', Below W1.heap.size W1 w' → (Rw w' .fd (.slice A1 fn n1) f ∧ KdL w' f) ∧ Rw w' .mt (.slice A2 mn n2) m ∧ KdL w' m) := by
         show ∀ w', _
         intro w' hc
         have K := Keep.below (hb1.trans (hc.mono hb1.size))
         exact ⟨⟨hxk.2.1.1.keep K, KdL.keep K _ hxk.2.1.2⟩, hxk.2.2.1.keep K, KdL.keep K _ hxk.2.2.2⟩
       have HW0 := Lib.hid (hC.trans (hb1.mono hC.size))
       obtain ⟨y0, y1, y2, y3⟩ := hx1.get_4
       have hD0 : Below W1.heap.size W1 W1 := Below.refl _ _
       clear hc hxk hx hxt hR hK hsk hqc hqp e3 e4 e5 hqF hqM hqR hfn hmn hxs hb1 hx1
       go_wp2_with (first
         | (go_at_call_of 18 (Value.string xnm); refine (CA.out _).mono ?_; rintro e' wn ⟨rfl, rfl⟩)
         | (go_at_call_of 18 (Value.string xsp); refine (CB.out _).mono ?_; rintro e' wn ⟨rfl, rfl⟩))
       all_goals first
         | (go_ret
            exact ⟨ret_bool (by rw [← HSK.out]; simp [*]), HB0.out.trans (HW0.out.mono HB0.out.size)⟩)
         | skip
       all_goals
         have HS2 := Lib.hid (show (qF && (qM && qR)) = r by rw [← HSK.out]; simp [*, Bool.and_assoc])
         obtain rfl : qm = false := by simp [*]
         try simp only [Bool.not_false]
         clear c0' c1' c2' c3' y0 y1 y2 y3 c0
         obtain ⟨y2, y3⟩ := HX1.out _ hD0
         go_loopw [5] (fun v5 wx => ∃ j : Nat, v5 = .int .i64 j ∧ j ≤ fn ∧ (f.take j).all (fun y => okT y 0) = true ∧ Below W1.heap.size W1 wx) (fun v5 wx => fn - (intOf v5).toNat)
         case atStart => exact ⟨0, rfl, Nat.zero_le _, by simp, hD0⟩
         case round =>
           obtain ⟨j, rfl, hjn, hall, hD⟩ := hrel
           have HAL := Lib.hid hall
           clear hall y2 y3 hD0
           obtain ⟨y2, y3⟩ := HX1.out _ hD
           by_cases hjl : j < fn
           · obtain ⟨⟨hRf, hKf⟩, _, _⟩ := HF1.out _ hD
             obtain ⟨g, go, z, rfl, hz, hzt, hcz⟩ := hRf.get hjl
             have hzk := KdL.mem_get hKf hz
             have hzs := size_mem (List.mem_of_getElem? hz)
             cases z <;> first | (simp [Nd.tag] at hzt; done) | skip
             rename_i zs zty znm zv zl
             rw [Kd] at hzk
             simp only [Nd.size] at hzs
             obtain ⟨tt, htt⟩ : ∃ t, okT (.fd zs zty znm zv zl) 0 = t := ⟨_, rfl⟩
             have htt2 := htt
             rw [okT_fd _ _ _ _ _ hzk.2.1.tags] at htt2
             obtain ⟨A3, n3, rfl⟩ := hzk.2.1.form
             have d0 := hcz 0 _ rfl; have d1 := hcz 1 _ rfl; have d2 := hcz 2 _ rfl; have d3 := hcz 3 _ rfl
             simp only [Tg.sz, Nat.add_zero] at d0 d1 d2 d3
             obtain ⟨pt, hpt⟩ : ∃ q, valT zty = !q := ⟨!valT zty, by simp⟩
             obtain ⟨pn, hpn⟩ : ∃ q, nameOk znm = !q := ⟨!nameOk znm, by simp⟩
             have PT : Hid (∀ w', Calls Tryz.prog 19 #[.string zty] w' fun e w'' => e = .returned (.bool (!pt)) ∧ w' = w'') := by
               show ∀ w', _
               intro w'; rw [← hpt]; exact rtype_any zty w' hzk.1.1
             have PN : Hid (∀ w', Calls Tryz.prog 20 #[.string znm] w' fun e w'' => e = .returned (.bool (!pn)) ∧ Below w'.heap.size w' w'') := by
               show ∀ w', _
               intro w'; rw [← hpn]; exact rname_any znm w' hzk.1.2
             rw [hpt, hpn] at htt2
             have HZ := Lib.hid hz
             have HTT := Lib.hid htt
             have hzl : zl.length ≤ 1000000 := by have := len_sizeL zl; have := HXS.out; omega
             obtain ⟨W2, hW2⟩ : ∃ W2, wr.alloc (.cells #[.bool zs, .string zty, .string znm, .slice A3 zl.length n3] 61) = W2 := ⟨_, rfl⟩
             have hb2 : Below wr.heap.size wr W2 := by rw [← hW2]; exact (Below.refl _ wr).alloc (Nat.le_refl _) _
             have hx2 : Bx W2 wr.heap.size #[.bool zs, .string zty, .string znm, .slice A3 zl.length n3] 61 := by rw [← hW2]; exact Bx.new _ _ _
             have HX2 : Hid (∀ w', Below W2.heap.size W2 w' → Bx w' wr.heap.size #[.bool zs, .string zty, .string znm, .slice A3 zl.length n3] 61) := by
               show ∀ w', _
               intro w' hc; exact hx2.next hc
             have HW12 := Lib.hid (hD.trans (hb2.mono hD.size))
             have HWW2 := Lib.hid ((HB0.out.trans (HW0.out.mono HB0.out.size)).trans (HW12.out.mono (HB0.out.trans (HW0.out.mono HB0.out.size)).size))
             have HFF : Hid (tt = false → r = false) := by
               show _ → _
               intro h; rw [h] at htt
               rw [← HS2.out, ← HQF.out, all_false hz (fun y => okT y 0) htt]; rfl
             have HPP : Hid (tt = true → (f.take (j + 1)).all (fun y => okT y 0) = true) := by
               show _ → _
               intro h; rw [h] at htt
               rw [all_take_succ hz, HAL.out, htt]; rfl
             have hE : Below W2.heap.size W2 W2 := Below.refl _ _
             obtain ⟨k0, k1, k2, k3⟩ := hx2.get_4
             by_cases he : zl.length = 1
             · obtain ⟨x0, rfl⟩ : ∃ x, zl = [x] := List.length_eq_one_iff.1 he
               have hx0t := hzk.2.1.tags x0 (by simp)
               have hx0k := hzk.2.2.1
               obtain ⟨bb, bo, xx, rfl, hxx, hxt9, hcx⟩ := (hzk.2.1.keep (Keep.below hb2)).get (show 0 < [x0].length by simp)
               clear hxt9
               have : x0 = xx := by simpa using hxx
               subst this
               cases x0 <;> first | (simp [Nd.tag] at hx0t; done) | skip
               rename_i xk xn xtx xnm' xty xv xl xown xnth
               simp only [sizeL, Nd.size] at hzs
               obtain ⟨qx, hqx⟩ : ∃ q, okT (.ex xk xn xtx xnm' xty xv xl xown xnth) 1 = !q := ⟨!okT (.ex xk xn xtx xnm' xty xv xl xown xnth) 1, by simp⟩
               have PX : Hid (∀ w', Below W2.heap.size W2 w' → Calls Tryz.prog 21 #[.agg #[.int .i64 xk, .int .i32 xn, .string xtx, .string xnm', .string xty, xv, .string xown, .int .i64 xnth], .int .i64 1] w' fun e w'' => e = .returned (.bool (!qx)) ∧ Below w'.heap.size w' w'') := by
                 show ∀ w', _
                 intro w' hc
                 rw [← hqx]
                 exact may_ex (sizeL xl) w' xk xn xtx xnm' xty xv xl xown xnth 1 1 (Nat.le_refl _) (by have := HXS.out; omega) (Kd.keep (Keep.below (hb2.trans (hc.mono hb2.size))) _ hx0k) rfl (by omega)
               obtain ⟨xA, xc, rfl⟩ := (by rw [Kd] at hx0k; exact hx0k.2.1.form : ∃ A cap, xv = .slice A xl.length cap)
               have HEL : Hid (∀ w', Below W2.heap.size W2 w' → w'.cell? ⟨bb, bo, none⟩ = some (.int .i64 xk) ∧ w'.cell? ⟨bb, bo + 1, none⟩ = some (.int .i32 xn) ∧ w'.cell? ⟨bb, bo + 2, none⟩ = some (.string xtx) ∧ w'.cell? ⟨bb, bo + 3, none⟩ = some (.string xnm') ∧ w'.cell? ⟨bb, bo + 4, none⟩ = some (.string xty) ∧ w'.cell? ⟨bb, bo + 5, none⟩ = some (.slice xA xl.length xc) ∧ w'.cell? ⟨bb, bo + 6, none⟩ = some (.string xown) ∧ w'.cell? ⟨bb, bo + 7, none⟩ = some (.int .i64 xnth)) := by
                 show ∀ w', _
                 intro w' hc
                 have K := Keep.below hc
                 have j0 := hcx 0 _ rfl; have j1 := hcx 1 _ rfl; have j2 := hcx 2 _ rfl; have j3 := hcx 3 _ rfl; have j4 := hcx 4 _ rfl; have j5 := hcx 5 _ rfl; have j6 := hcx 6 _ rfl; have j7 := hcx 7 _ rfl
                 simp only [Nat.zero_mul, Nat.add_zero] at j0 j1 j2 j3 j4 j5 j6 j7
                 exact ⟨K _ _ j0, K _ _ j1, K _ _ j2, K _ _ j3, K _ _ j4, K _ _ j5, K _ _ j6, K _ _ j7⟩
               have HT2 := Lib.hid (show (!pt && (!pn && !qx)) = tt by rw [← htt2]; simp [hqx])
               obtain ⟨i0, i1, i2, i3, i4, i5, i6, i7⟩ := HEL.out _ hE
               simp only [List.length_singleton] at d3 k3 HX2 hW2
               clear hcx hxx hx0t hx0k hzk hz hzt hcz htt htt2 hpt hpn hqx hzs he hx2 hb2 hRf hKf
               go_wp2_with (first
                 | (go_at_call 19; refine (PT.out _).mono ?_; rintro e' wn ⟨rfl, rfl⟩)
                 | (go_at_call 20; refine (PN.out _).mono ?_; rintro e' wn ⟨rfl, hc⟩; have hE := hE.trans (hc.mono hE.size); clear hc; obtain ⟨_, _, _, k3⟩ := (HX2.out _ hE).get_4; obtain ⟨i0, i1, i2, i3, i4, i5, i6, i7⟩ := HEL.out _ hE)
                 | (go_at_call 21; refine (PX.out _ hE).mono ?_; rintro e' wn ⟨rfl, hc⟩; have hE := hE.trans (hc.mono hE.size); clear hc))
               all_goals first
                 | (go_roundw
                    case rel => exact ⟨j + 1, by go_num, by omega, HPP.out (by rw [← HT2.out]; simp [*]), HW12.out.trans (hE.mono HW12.out.size)⟩
                    case measure => simp [intOf]; omega)
                 | (go_ret
                    exact ⟨ret_bool (HFF.out (by rw [← HT2.out]; simp [*])).symm, HWW2.out.trans (hE.mono HWW2.out.size)⟩)
             · have hqe : ((zl.length : Int) == 1) = false := by rw [beq_eq_false_iff_ne]; omega
               obtain ⟨qg, hqg⟩ : ∃ q, decide (1 < (zl.length : Int)) = q := ⟨_, rfl⟩
               have HT2 := Lib.hid (show (!pt && (!pn && !qg)) = tt by
                 rw [← htt2]
                 by_cases h0 : zl.length = 0
                 · have : zl = [] := List.eq_nil_of_length_eq_zero h0
                   subst this; rw [← hqg]; simp
                 · have h1 : decide (zl.length ≤ 1) = false := decide_eq_false (by omega)
                   have h2 : qg = true := by rw [← hqg]; exact decide_eq_true (by omega)
                   rw [h1, h2]; simp)
               clear hzk hz hzt hcz htt htt2 hpt hpn hzs he hx2 hb2 hRf hKf
               go_wp2_with (first
                 | (go_at_call 19; refine (PT.out _).mono ?_; rintro e' wn ⟨rfl, rfl⟩)
                 | (go_at_call 20; refine (PN.out _).mono ?_; rintro e' wn ⟨rfl, hc⟩; have hE := hE.trans (hc.mono hE.size); clear hc; obtain ⟨_, _, _, k3⟩ := (HX2.out _ hE).get_4))
               all_goals first
                 | (go_roundw
                    case rel => exact ⟨j + 1, by go_num, by omega, HPP.out (by rw [← HT2.out]; simp [*]), HW12.out.trans (hE.mono HW12.out.size)⟩
                    case measure => simp [intOf]; omega)
                 | (go_ret
                    exact ⟨ret_bool (HFF.out (by rw [← HT2.out]; simp [*])).symm, HWW2.out.trans (hE.mono HWW2.out.size)⟩)
           · have hqf1 : qF = true := by rw [← HQF.out, ← HAL.out, List.take_of_length_le (by rw [HFN.out]; omega)]
             have HS3 := Lib.hid (show (qM && qR) = r by rw [← HS2.out, hqf1]; rfl)
             clear hqf1
             go_wp2_with fail
             go_loopw [7] (fun v7 wx => ∃ j : Nat, v7 = .int .i64 j ∧ j ≤ mn ∧ (m.take j).all (fun y => okT y 0) = true ∧ Below W1.heap.size W1 wx) (fun v7 wx => mn - (intOf v7).toNat)
             case atStart => exact ⟨0, rfl, Nat.zero_le _, by simp, hD⟩
             case round =>
               obtain ⟨i, rfl, hin, hall, hE⟩ := hrel
               have HAM := Lib.hid hall
               clear hall y2 y3 hD
               obtain ⟨y2, y3⟩ := HX1.out _ hE
               by_cases hil : i < mn
               · obtain ⟨_, hRm, hKm⟩ := HF1.out _ hE
                 obtain ⟨g, go, z, rfl, hz, hzt, hcz⟩ := hRm.get hil
                 have hzk := KdL.mem_get hKm hz
                 have hzs := size_mem (List.mem_of_getElem? hz)
                 cases z <;> first | (simp [Nd.tag] at hzt; done) | skip
                 rename_i zs zc zty znm zvp zps zv zl
                 simp only [Nd.size] at hzs
                 obtain ⟨tt, htt⟩ : ∃ t, okT (.mt zs zc zty znm zvp zps zv zl) 0 = !t := ⟨!okT (.mt zs zc zty znm zvp zps zv zl) 0, by simp⟩
                 have HCALL := Lib.hid (may_mt _ zs zc zty znm zvp zps zv zl hzk (by have := HXS.out; omega))
                 rw [htt] at HCALL
                 have d0 := hcz 0 _ rfl; have d1 := hcz 1 _ rfl; have d2 := hcz 2 _ rfl; have d3 := hcz 3 _ rfl; have d4 := hcz 4 _ rfl; have d5 := hcz 5 _ rfl
                 simp only [Tg.sz, Nat.add_zero] at d0 d1 d2 d3 d4 d5
                 rw [Kd] at hzk
                 obtain ⟨A3, n3, rfl, _⟩ := hzk.2.1.form
                 obtain ⟨A4, n4, rfl⟩ := hzk.2.2.1.form
                 have HFF : Hid (tt = true → r = false) := by
                   show _ → _
                   intro h; rw [h] at htt
                   rw [← HS3.out, ← HQM.out, all_false hz (fun y => okT y 0) htt]; rfl
                 have HPP : Hid (tt = false → (m.take (i + 1)).all (fun y => okT y 0) = true) := by
                   show _ → _
                   intro h; rw [h] at htt
                   rw [all_take_succ hz, HAM.out, htt]; rfl
                 clear hzk hz hzt hcz htt hzs hRm hKm
                 go_wp2_with (go_at_call 22; refine HCALL.out.mono ?_; clear HCALL; rintro e' w2 ⟨rfl, hb2⟩)
                 all_goals
                   have hE2 := hE.trans (hb2.mono hE.size)
                   have HWF := Lib.hid ((HB0.out.trans (HW0.out.mono HB0.out.size)).trans (hE2.mono (HB0.out.trans (HW0.out.mono HB0.out.size)).size))
                 all_goals first
                   | (go_roundw
                      case rel => exact ⟨i + 1, by go_num, by omega, HPP.out (by simp [*]), hE2⟩
                      case measure => simp [intOf]; omega)
                   | (go_ret
                      exact ⟨ret_bool (HFF.out (by simp [*])).symm, HWF.out⟩)
               · have hqm1 : qM = true := by rw [← HQM.out, ← HAM.out, List.take_of_length_le (by rw [HMN.out]; omega)]
                 have HS4 := Lib.hid (show qR = r by rw [← HS3.out, hqm1]; rfl)
                 clear hqm1
                 have HEW := Lib.hid (HW0.out.trans (hE.mono HW0.out.size))
                 go_wp2_with fail
                 go_roundw
                 case rel => exact ⟨k + 1, by go_num, by omega, by rw [HQR.out, HS4.out], HEW.out⟩
                 case measure => simp [intOf]; omega
     · have hF : r = true := by rw [← hsk, List.drop_eq_nil_of_le (by rw [HLN.out]; omega)]; rfl
       have HF := Lib.hid hF
       clear hsk hF
       go_wp2_with fail
       go_ret
       exact ⟨ret_bool HF.out.symm, HB0.out.trans (hC.mono HB0.out.size)⟩
end Go.Proofs.YtnbfajmdfkgebaaGreatDoor
