/- Parts of the proof: StF, ClA, ClB, Or. -/
import Derived.Test.YtnbfajmdfkgebaaGreatDoorP30
import Derived.Test.YtnbfajmdfkgebaaGreatDoorP3
import Derived.Test.YtnbfajmdfkgebaaGreatDoorP31
import Derived.Deep.Cut
import Derived.Laws.StructEq
set_option maxHeartbeats 4000000
set_option maxRecDepth 100000
namespace Go.Proofs.YtnbfajmdfkgebaaGreatDoor
set_option linter.unusedSimpArgs false
set_option linter.unusedVariables false
section
open Go.RowKit
theorem Rd.lated {W0 w : World} {c : Nat} {s : RS} (h : Rd W0 c s w) (k t : Int) :
   Mv W0 c (if s.lc = 0 then { s with lc := k, la := t } else s) w (if s.lc = 0 then ((w.alloc (.cells #[.int .i64 s.lc, .int .i64 s.la] 53)).setCell ⟨c, 5, none⟩ (.int .i64 k)).setCell ⟨c, 6, none⟩ (.int .i64 t) else w.alloc (.cells #[.int .i64 s.lc, .int .i64 s.la] 53)) := by
 have hb := (Below.refl _ w).alloc (Nat.le_refl _) (.cells #[.int .i64 s.lc, .int .i64 s.la] 53)
 have hm := Mv.below hb h
 split
 · obtain ⟨hg, h1, h2, v, hw, hx⟩ := hm
   refine ⟨(hg.trans (grown_setc _ _ _ _)).trans (grown_setc _ _ _ _), (h1.setCell h2 _).setCell h2 _, h2, v, hw, ?_⟩
   have := (hx.set 5 (.int .i64 k)).set 6 (.int .i64 t)
   simpa using this
 · exact hm
theorem late_any (W0 w : World) (c : Nat) (s : RS) (a : Int) (h : Rd W0 c s w) : Calls Tryz.prog 73 #[.pointer (some ⟨c, 5, none⟩), .int .i64 3, .int .i64 a] w fun e w' => e = .returned (.tuple #[]) ∧ Mv W0 c (s.lateN a) w w' := by
 obtain ⟨A, cap, hw, hm, hx⟩ := h.cells
 have c5 := hx.cell 5; have c6 := hx.cell 6; have f5 := hx.fro 5; have f6 := hx.fro 6
 simp only [List.getElem?_toArray, List.getElem?_cons_succ, List.getElem?_cons_zero] at c5 c6
 refine (note_any w c 5 s.lc s.la 3 a c5 c6 f5 f6).mono ?_
 rintro e w' ⟨rfl, rfl⟩
 exact ⟨rfl, h.lated 3 a⟩
def SpecD (n : Nat) : Prop := ∀ (W0 w : World) (c : Nat) (s : RS) (ct : Bool), Vars W0 → Rd W0 c s w → enoughS n (.body ct) s → Calls Tryz.prog 118 #[.pointer (some ⟨c, 0, none⟩), .bool ct] w (BlC W0 c w (runS n (.body ct) s))
theorem block_of (n : Nat) (IH : SpecD n) : SpecK n (runS n (.body false)) := by
 intro W0 w c s hv h hn
 have HX := Lib.hid (IH W0 w c s false hv h hn)
 obtain ⟨R, hR⟩ : ∃ R, runS n (.body false) s = R := ⟨_, rfl⟩
 rw [hR] at HX ⊢
 clear hR hn h hv IH
 go_enter Tryz.func119, Tryz.ntmps119
 go_wp2_with fail
 refine HX.out.mono ?_
 clear HX
 rintro e w2 ⟨v, ys, rfl, hf, hq, hm⟩
 obtain ⟨A, cap, rfl⟩ := fk_len hf
 have HF := Lib.hid hf; have HQ := Lib.hid hq; have HM := Lib.hid hm
 clear hf hq hm
 go_wp2_with fail
 go_ret
 exact ⟨_, ys, rfl, HF.out, HQ.out, HM.out⟩
theorem body_false (HE : ExAny) (HAR : ArAny) (n : Nat) (IH : ∀ m, m ≤ n → SpecD m) (W0 w : World) (c : Nat) (s : RS) (hv : Vars W0) (h : Rd W0 c s w) (hn : enoughS (n + 1) (.body false) s) : Calls Tryz.prog 118 #[.pointer (some ⟨c, 0, none⟩), .bool false] w (BlC W0 c w (runS (n + 1) (.body false) s)) := by
 obtain ⟨R, hR⟩ : ∃ R, runS n (.loop false []) (s.enter sBra) = R := ⟨_, rfl⟩
 have hRR : runS (n + 1) (.body false) s = (R.1, R.2.leave sKet) := by simp only [runS, hR]
 have hen : enoughS n (.loop false []) (s.enter sBra) := by have := len_enter s sBra; simp only [enoughS, Ms.rank] at hn ⊢; omega
 have hlt := h.lt
 have hle0 := h.le
 have HN := Lib.hid (enter_any W0 w c s sBra h)
 have HLV : Hid (∀ w', Rd W0 c R.2 w' → Calls Tryz.prog 142 #[.pointer (some ⟨c, 0, none⟩), .string sKet] w' fun e w'' => e = .returned (.tuple #[]) ∧ Mv W0 c (R.2.leave sKet) w' w'') := by
   show ∀ w', _
   intro w' h'; exact leave_any W0 w' c _ sKet h'
 rw [hRR]
 have HRUN := Lib.hid hR
 have HEN := Lib.hid hen
 have HIH := Lib.hid IH
 have HV := Lib.hid hv
 have HHE := Lib.hid HE
 have HHA := Lib.hid HAR
 obtain ⟨i0, hi, hz0, hz1, hz2⟩ := info_parts Tryz.infoSt
 clear hRR hR hen hn h IH hv HE HAR
 go_enter Tryz.func118, Tryz.ntmps118
 go_wp2_with fail
 refine HN.out.mono ?_
 clear HN
 rintro e w2 ⟨rfl, hm⟩
 have HM := Lib.hid hm
 have hfew := hm.2.few
 clear hm
 go_wp2_with fail
 go_loopw [5] (fun v5 wr => ∃ (m : Nat) (acc ys : List Nd) (s' : RS), m ≤ n ∧ runS m (.loop false acc) s' = R ∧ enoughS m (.loop false acc) s' ∧ OwnT .st 118 w.heap.size none wr v5 ys ∧ bareL ys = bareL acc ∧ ys.length + s'.len ≤ 1000001 ∧ Mv W0 c s' w wr) (fun v5 wr => lenAt wr c)
 case atStart => exact ⟨n, [], [], s.enter sBra, Nat.le_refl _, HRUN.out, HEN.out, OwnT.nil, rfl, by simp; omega, HM.out⟩
 case round =>
   obtain ⟨m, acc, ys, s', hmn, hrun, hen, ho, hbr, hbd, hm⟩ := hrel
   obtain ⟨m, rfl⟩ : ∃ m', m = m' + 1 := ⟨m - 1, by simp only [enoughS, Ms.rank] at hen; omega⟩
   have HU := Lib.hid (until_any W0 wr c s' sKet hm.2)
   have hla := lenAt_of hm.2
   cases hun : s'.until sKet with
   | false =>
     have hR : runS (m + 1) (.loop false acc) s' = (acc, s') := by simp only [runS, hun]; simp
     rw [hR] at hrun
     rw [hun] at HU
     have HM3 := Lib.hid hm
     have HO3 := Lib.hid ho.fk
     have HB3 := Lib.hid hbr
     subst hrun
     obtain ⟨A3, cap3, rfl⟩ := ho.form
     clear hR hun hm ho hbr hla hen hbd
     go_wp2_with fail
     refine HU.out.mono ?_
     clear HU
     rintro e w5 ⟨rfl, rfl⟩
     go_wp2_with fail
     refine (HLV.out _ HM3.out.2).mono ?_
     clear HLV
     rintro e w6 ⟨rfl, hm⟩
     have HM4 := Lib.hid hm
     clear hm
     go_wp2_with fail
     go_ret
     exact ⟨_, ys, rfl, HO3.out.grown HM4.out.1 hlt, HB3.out, HM3.out.trans HM4.out⟩
   | true =>
     rw [hun] at HU
     obtain ⟨r, hr⟩ : ∃ r, stS (runS m (.body false)) s' = r := ⟨_, rfl⟩
     have hlab : acc.length = ys.length := (len_of_bare hbr).symm
     obtain ⟨fit, hfit⟩ : ∃ fit, fitsS r.1 false = fit := ⟨_, rfl⟩
     have hR : runS (m + 1) (.loop false acc) s' = runS m (.loop false (acc ++ [r.1])) (if fit = true then r.2 else r.2.lateN s'.at) := by simp only [runS, hun, if_true, hr, Bool.false_and, hfit]
     rw [hR] at hrun
     have h1 : 1 ≤ s'.len := by
       cases hw : s'.ws with
       | nil => simp [RS.until, hw] at hun
       | cons x l => simp [RS.len, hw]
     have hm1 : 1 ≤ m := by simp only [enoughS, Ms.rank] at hen; omega
     have h3 : r.2.len ≤ s'.len - 1 := by rw [← hr]; exact len_stS (fun q => len_body m false q hm1) s'
     have hbl : ∀ q, (runS m (.body false) q).2.len ≤ q.len := fun q => (runS_len m _ q).1
     have hgd : goodS r.1 := by rw [← hr]; exact good_stS _ _
     have HST := Lib.hid (stmt_of HHE.out HHA.out m (runS m (.body false)) (block_of m (HIH.out m (by omega))) hbl W0 wr c s' HV.out hm.2 (by simp only [enoughS, Ms.rank] at hen; omega))
     rw [hr] at HST
     have HAT := Lib.hid (at_any W0 wr c s' hm.2)
     obtain ⟨av, hav⟩ : ∃ av, s'.at = av := ⟨_, rfl⟩
     rw [hav] at hrun HAT
     have HM3 := Lib.hid hm
     have HO3 := Lib.hid ho
     have HB3 := Lib.hid hbr
     have hws : w.heap.size ≤ wr.heap.size := hm.1.size
     obtain ⟨A0, cap0, rfl⟩ := ho.form
     clear hR hr hm ho hbr hun hbl hav hlab
     go_wp2_with fail
     refine HU.out.mono ?_
     clear HU
     rintro e w3 ⟨rfl, rfl⟩
     go_wp2_with fail
     refine HAT.out.mono ?_
     clear HAT
     rintro e w3 ⟨rfl, rfl⟩
     go_wp2_with fail
     refine HST.out.mono ?_
     clear HST
     intro e w5 hst
     obtain ⟨k, m', ty, nm, A1, A2, A3, A4, c1, c2, c3, c4, l1, l2, l3, l4, rfl, hk, hm⟩ := hst.open
     clear hst
     obtain ⟨W6, hW6⟩ : ∃ W, w5.alloc (.cells #[.int .i64 k, .int .i32 m', .string ty, .string nm, .slice A1 l1.length c1, .slice A2 l2.length c2, .slice A3 l3.length c3, .slice A4 l4.length c4, .int .i64 0] 118) = W := ⟨_, rfl⟩
     have hb6 : Below w5.heap.size w5 W6 := by rw [← hW6]; exact (Below.refl _ _).alloc (Nat.le_refl _) _
     have hl6 : Bx W6 w5.heap.size #[.int .i64 k, .int .i32 m', .string ty, .string nm, .slice A1 l1.length c1, .slice A2 l2.length c2, .slice A3 l3.length c3, .slice A4 l4.length c4, .int .i64 0] 118 := by rw [← hW6]; exact Bx.new _ _ _
     have hk6 := hk.below hb6
     have hrw : Rw W6 .ex (.slice A1 l1.length c1) l1 := by
       have := hk6.2.1 W6 (fun _ _ _ _ _ hu => hu)
       rw [Kd] at this
       exact this.2.1.1
     have HFT := Lib.hid (fitsP_any W6 k m' ty nm A1 A2 A3 A4 c1 c2 c3 c4 l1 l2 l3 l4 false hrw (good_bare hk.2.2 hgd))
     rw [fitsS_bare hk.2.2 false, hfit] at HFT
     have HM6 := Lib.hid ((HM3.out.trans hm).trans (Mv.below hb6 hm.2))
     have HO6 := Lib.hid ((HO3.out.grown hm.1 hlt).below hb6)
     have HK6 := Lib.hid hk6
     have HL6 := Lib.hid hl6
     have hs5 := hm.1.size
     have hs6 := hb6.size
     subst hW6
     clear hm hk hk6 hl6 hb6 hrw hgd hfit
     obtain ⟨a0, a1, a2, a3, a4, a5, a6, a7, a8⟩ := HL6.out.all_9
     go_wp2_with fail
     refine HFT.out.mono ?_
     clear HFT a0 a1 a2 a3 a4 a5 a6 a7 a8
     rintro e w7 ⟨rfl, hb⟩
     have HM7 := Lib.hid (HM6.out.trans (Mv.below hb HM6.out.2))
     have HO7 := Lib.hid (HO6.out.below hb)
     have HK7 := Lib.hid (HK6.out.below hb)
     have HL7 := Lib.hid (HL6.out.next hb)
     have hs7 := hb.size
     clear hb HM6 HO6 HK6 HL6
     have hsz5 : w5.heap.size < w7.heap.size := HL7.out.lt
     cases fit with
     | true =>
       simp only [if_true, Bool.false_eq_true, if_false] at hrun
       have hba : Below w7.heap.size w7 (w7.alloc (.cells #[.int .i64 k, .int .i32 m', .string ty, .string nm, .slice A1 l1.length c1, .slice A2 l2.length c2, .slice A3 l3.length c3, .slice A4 l4.length c4, .int .i64 0] 118)) := (Below.refl _ _).alloc (Nat.le_refl _) _
       have HY := Lib.hid (OwnT.one (T := 118) HK7.out (show wr.heap.size ≤ w7.heap.size by omega))
       simp only [cellsN] at HY
       have HO9 := Lib.hid (HO7.out.below hba)
       have HM9 := Lib.hid (HM7.out.trans (Mv.below hba HM7.out.2))
       have HB9 := Lib.hid HK7.out.2.2
       have hen2 : enoughS m (.loop false (acc ++ [r.1])) r.2 := by simp only [enoughS, Ms.rank] at hen ⊢; omega
       have HRN := Lib.hid hrun
       have HE9 := Lib.hid hen2
       have hwz : w.heap.size ≤ (w7.alloc (.cells #[.int .i64 k, .int .i32 m', .string ty, .string nm, .slice A1 l1.length c1, .slice A2 l2.length c2, .slice A3 l3.length c3, .slice A4 l4.length c4, .int .i64 0] 118)).heap.size := Nat.le_trans (by omega) hba.size
       obtain ⟨a0, a1, a2, a3, a4, a5, a6, a7, a8⟩ := HL7.out.all_9
       have HOL := HO3.out.lt
       clear hba hen hen2 hrun
       go_wp2_with (at_builtin; refine append_any rfl (.tmp 30) (.tmp 32) 46 rfl w.heap.size 118 i0 _ 9 152 Tryz.underlying46 hi hz0 hz1 hz2 rfl (by decide) _ _ _ rfl HO9.out.1 wr.heap.size _ _ _ rfl HY.out.1 HY.out.one' ?c3 ?c4 hwz ?_)
       case c3 => unfold maxLen; simp; omega
       case c4 => simp; omega
       intro v2 w10 hown2 hgrow hat
       have HN := Lib.hid (OwnT.app HO9.out HY.out hws (fun k hk => (HOL k hk).2) (by simp) hown2 hgrow (hat.imp id fun e => by rw [e]; simp) (by simp; omega))
       have HMM := Lib.hid (Mv.row HM9.out hgrow (fun k hk => Nat.ne_of_gt (Nat.lt_of_lt_of_le hlt (HOL k hk).1)) (fun k hk => (HOL k hk).1) hlt)
       have HBB : Hid (bareL (ys ++ [.st k m' ty nm (.slice A1 l1.length c1) (.slice A2 l2.length c2) (.slice A3 l3.length c3) (.slice A4 l4.length c4) l1 l2 l3 l4 0]) = bareL (acc ++ [r.1])) := Lib.hid (by rw [bareL_append, bareL_append, HB3.out]; simp only [bareL]; rw [HB9.out])
       clear hown2 hgrow hat
       go_wp2_with fail
       go_roundw
       case rel => exact ⟨m, _, _, r.2, by omega, HRN.out, HE9.out, HN.out, HBB.out, by simp; omega, HMM.out⟩
       case measure => rw [hla, lenAt_of HMM.out.2]; omega
     | false =>
       simp only [if_true, Bool.false_eq_true, if_false] at hrun
       have HLN := Lib.hid (late_any W0 w7 c r.2 av HM7.out.2)
       go_wp2_with fail
       refine HLN.out.mono ?_
       clear HLN
       rintro e w8 ⟨rfl, hm⟩
       have HM8 := Lib.hid (HM7.out.trans hm)
       have HO8 := Lib.hid (HO7.out.grown hm.1 hlt)
       have HK8 := Lib.hid (HK7.out.grown hm.1 (.inl (by omega)))
       have HL8 := Lib.hid (Bx.grown HL7.out hm.1 (by omega))
       have hs8 := hm.1.size
       clear hm
       have h4 : (r.2.lateN av).len ≤ s'.len - 1 := by rw [len_late]; exact h3
       have hba : Below w8.heap.size w8 (w8.alloc (.cells #[.int .i64 k, .int .i32 m', .string ty, .string nm, .slice A1 l1.length c1, .slice A2 l2.length c2, .slice A3 l3.length c3, .slice A4 l4.length c4, .int .i64 0] 118)) := (Below.refl _ _).alloc (Nat.le_refl _) _
       have HY := Lib.hid (OwnT.one (T := 118) HK8.out (show wr.heap.size ≤ w8.heap.size by omega))
       simp only [cellsN] at HY
       have HO9 := Lib.hid (HO8.out.below hba)
       have HM9 := Lib.hid (HM8.out.trans (Mv.below hba HM8.out.2))
       have HB9 := Lib.hid HK8.out.2.2
       have hen2 : enoughS m (.loop false (acc ++ [r.1])) (r.2.lateN av) := by simp only [enoughS, Ms.rank] at hen ⊢; omega
       have HRN := Lib.hid hrun
       have HE9 := Lib.hid hen2
       have hwz : w.heap.size ≤ (w8.alloc (.cells #[.int .i64 k, .int .i32 m', .string ty, .string nm, .slice A1 l1.length c1, .slice A2 l2.length c2, .slice A3 l3.length c3, .slice A4 l4.length c4, .int .i64 0] 118)).heap.size := Nat.le_trans (by omega) hba.size
       obtain ⟨a0, a1, a2, a3, a4, a5, a6, a7, a8⟩ := HL8.out.all_9
       have HOL := HO3.out.lt
       clear hba hen hen2 hrun
       go_wp2_with (at_builtin; refine append_any rfl (.tmp 30) (.tmp 32) 46 rfl w.heap.size 118 i0 _ 9 152 Tryz.underlying46 hi hz0 hz1 hz2 rfl (by decide) _ _ _ rfl HO9.out.1 wr.heap.size _ _ _ rfl HY.out.1 HY.out.one' ?c3 ?c4 hwz ?_)
       case c3 => unfold maxLen; simp; omega
       case c4 => simp; omega
       intro v2 w10 hown2 hgrow hat
       have HN := Lib.hid (OwnT.app HO9.out HY.out hws (fun k hk => (HOL k hk).2) (by simp) hown2 hgrow (hat.imp id fun e => by rw [e]; simp) (by simp; omega))
       have HMM := Lib.hid (Mv.row HM9.out hgrow (fun k hk => Nat.ne_of_gt (Nat.lt_of_lt_of_le hlt (HOL k hk).1)) (fun k hk => (HOL k hk).1) hlt)
       have HBB : Hid (bareL (ys ++ [.st k m' ty nm (.slice A1 l1.length c1) (.slice A2 l2.length c2) (.slice A3 l3.length c3) (.slice A4 l4.length c4) l1 l2 l3 l4 0]) = bareL (acc ++ [r.1])) := Lib.hid (by rw [bareL_append, bareL_append, HB3.out]; simp only [bareL]; rw [HB9.out])
       clear hown2 hgrow hat
       go_wp2_with fail
       go_roundw
       case rel => exact ⟨m, _, _, (r.2.lateN av), by omega, HRN.out, HE9.out, HN.out, HBB.out, by simp; omega, HMM.out⟩
       case measure => rw [hla, lenAt_of HMM.out.2]; omega
theorem body_true (HE : ExAny) (HAR : ArAny) (n : Nat) (IH : ∀ m, m ≤ n → SpecD m) (W0 w : World) (c : Nat) (s : RS) (hv : Vars W0) (h : Rd W0 c s w) (hn : enoughS (n + 1) (.body true) s) : Calls Tryz.prog 118 #[.pointer (some ⟨c, 0, none⟩), .bool true] w (BlC W0 c w (runS (n + 1) (.body true) s)) := by
 obtain ⟨R, hR⟩ : ∃ R, runS n (.loop true []) (s.enter sBra) = R := ⟨_, rfl⟩
 have hRR : runS (n + 1) (.body true) s = (R.1, R.2.leave sKet) := by simp only [runS, hR]
 have hen : enoughS n (.loop true []) (s.enter sBra) := by have := len_enter s sBra; simp only [enoughS, Ms.rank] at hn ⊢; omega
 have hlt := h.lt
 have hle0 := h.le
 have HN := Lib.hid (enter_any W0 w c s sBra h)
 have HLV : Hid (∀ w', Rd W0 c R.2 w' → Calls Tryz.prog 142 #[.pointer (some ⟨c, 0, none⟩), .string sKet] w' fun e w'' => e = .returned (.tuple #[]) ∧ Mv W0 c (R.2.leave sKet) w' w'') := by
   show ∀ w', _
   intro w' h'; exact leave_any W0 w' c _ sKet h'
 rw [hRR]
 have HRUN := Lib.hid hR
 have HEN := Lib.hid hen
 have HIH := Lib.hid IH
 have HV := Lib.hid hv
 have HHE := Lib.hid HE
 have HHA := Lib.hid HAR
 obtain ⟨i0, hi, hz0, hz1, hz2⟩ := info_parts Tryz.infoSt
 clear hRR hR hen hn h IH hv HE HAR
 go_enter Tryz.func118, Tryz.ntmps118
 go_wp2_with fail
 refine HN.out.mono ?_
 clear HN
 rintro e w2 ⟨rfl, hm⟩
 have HM := Lib.hid hm
 have hfew := hm.2.few
 clear hm
 go_wp2_with fail
 go_loopw [5] (fun v5 wr => ∃ (m : Nat) (acc ys : List Nd) (s' : RS), m ≤ n ∧ runS m (.loop true acc) s' = R ∧ enoughS m (.loop true acc) s' ∧ OwnT .st 118 w.heap.size none wr v5 ys ∧ bareL ys = bareL acc ∧ ys.length + s'.len ≤ 1000001 ∧ Mv W0 c s' w wr) (fun v5 wr => lenAt wr c)
 case atStart => exact ⟨n, [], [], s.enter sBra, Nat.le_refl _, HRUN.out, HEN.out, OwnT.nil, rfl, by simp; omega, HM.out⟩
 case round =>
   obtain ⟨m, acc, ys, s', hmn, hrun, hen, ho, hbr, hbd, hm⟩ := hrel
   obtain ⟨m, rfl⟩ : ∃ m', m = m' + 1 := ⟨m - 1, by simp only [enoughS, Ms.rank] at hen; omega⟩
   have HU := Lib.hid (until_any W0 wr c s' sKet hm.2)
   have hla := lenAt_of hm.2
   cases hun : s'.until sKet with
   | false =>
     have hR : runS (m + 1) (.loop true acc) s' = (acc, s') := by simp only [runS, hun]; simp
     rw [hR] at hrun
     rw [hun] at HU
     have HM3 := Lib.hid hm
     have HO3 := Lib.hid ho.fk
     have HB3 := Lib.hid hbr
     subst hrun
     obtain ⟨A3, cap3, rfl⟩ := ho.form
     clear hR hun hm ho hbr hla hen hbd
     go_wp2_with fail
     refine HU.out.mono ?_
     clear HU
     rintro e w5 ⟨rfl, rfl⟩
     go_wp2_with fail
     refine (HLV.out _ HM3.out.2).mono ?_
     clear HLV
     rintro e w6 ⟨rfl, hm⟩
     have HM4 := Lib.hid hm
     clear hm
     go_wp2_with fail
     go_ret
     exact ⟨_, ys, rfl, HO3.out.grown HM4.out.1 hlt, HB3.out, HM3.out.trans HM4.out⟩
   | true =>
     rw [hun] at HU
     obtain ⟨r, hr⟩ : ∃ r, stS (runS m (.body false)) s' = r := ⟨_, rfl⟩
     have hlab : acc.length = ys.length := (len_of_bare hbr).symm
     obtain ⟨fq, hfq⟩ : ∃ fq, ((ys.length : Int) == 0) = fq := ⟨_, rfl⟩
     have hfe : (true && acc.isEmpty) = fq := by
       rw [← hfq, Bool.true_and]
       cases acc with
       | nil => simp only [List.length_nil] at hlab; rw [← hlab]; rfl
       | cons x l => simp only [List.length_cons] at hlab; rw [← hlab]; rfl
     obtain ⟨fit, hfit⟩ : ∃ fit, fitsS r.1 fq = fit := ⟨_, rfl⟩
     have hR : runS (m + 1) (.loop true acc) s' = runS m (.loop true (acc ++ [r.1])) (if fit = true then r.2 else r.2.lateN s'.at) := by simp only [runS, hun, if_true, hr, hfe, hfit]
     rw [hR] at hrun
     have h1 : 1 ≤ s'.len := by
       cases hw : s'.ws with
       | nil => simp [RS.until, hw] at hun
       | cons x l => simp [RS.len, hw]
     have hm1 : 1 ≤ m := by simp only [enoughS, Ms.rank] at hen; omega
     have h3 : r.2.len ≤ s'.len - 1 := by rw [← hr]; exact len_stS (fun q => len_body m false q hm1) s'
     have hbl : ∀ q, (runS m (.body false) q).2.len ≤ q.len := fun q => (runS_len m _ q).1
     have hgd : goodS r.1 := by rw [← hr]; exact good_stS _ _
     have HST := Lib.hid (stmt_of HHE.out HHA.out m (runS m (.body false)) (block_of m (HIH.out m (by omega))) hbl W0 wr c s' HV.out hm.2 (by simp only [enoughS, Ms.rank] at hen; omega))
     rw [hr] at HST
     have HAT := Lib.hid (at_any W0 wr c s' hm.2)
     obtain ⟨av, hav⟩ : ∃ av, s'.at = av := ⟨_, rfl⟩
     rw [hav] at hrun HAT
     have HM3 := Lib.hid hm
     have HO3 := Lib.hid ho
     have HB3 := Lib.hid hbr
     have hws : w.heap.size ≤ wr.heap.size := hm.1.size
     obtain ⟨A0, cap0, rfl⟩ := ho.form
     clear hR hr hm ho hbr hun hbl hav hlab
     go_wp2_with fail
     refine HU.out.mono ?_
     clear HU
     rintro e w3 ⟨rfl, rfl⟩
     go_wp2_with fail
     refine HAT.out.mono ?_
     clear HAT
     rintro e w3 ⟨rfl, rfl⟩
     go_wp2_with fail
     refine HST.out.mono ?_
     clear HST
     intro e w5 hst
     obtain ⟨k, m', ty, nm, A1, A2, A3, A4, c1, c2, c3, c4, l1, l2, l3, l4, rfl, hk, hm⟩ := hst.open
     clear hst
     obtain ⟨W6, hW6⟩ : ∃ W, w5.alloc (.cells #[.int .i64 k, .int .i32 m', .string ty, .string nm, .slice A1 l1.length c1, .slice A2 l2.length c2, .slice A3 l3.length c3, .slice A4 l4.length c4, .int .i64 0] 118) = W := ⟨_, rfl⟩
     have hb6 : Below w5.heap.size w5 W6 := by rw [← hW6]; exact (Below.refl _ _).alloc (Nat.le_refl _) _
     have hl6 : Bx W6 w5.heap.size #[.int .i64 k, .int .i32 m', .string ty, .string nm, .slice A1 l1.length c1, .slice A2 l2.length c2, .slice A3 l3.length c3, .slice A4 l4.length c4, .int .i64 0] 118 := by rw [← hW6]; exact Bx.new _ _ _
     have hk6 := hk.below hb6
     have hrw : Rw W6 .ex (.slice A1 l1.length c1) l1 := by
       have := hk6.2.1 W6 (fun _ _ _ _ _ hu => hu)
       rw [Kd] at this
       exact this.2.1.1
     have HFT := Lib.hid (fitsP_any W6 k m' ty nm A1 A2 A3 A4 c1 c2 c3 c4 l1 l2 l3 l4 fq hrw (good_bare hk.2.2 hgd))
     rw [fitsS_bare hk.2.2 fq, hfit] at HFT
     have HM6 := Lib.hid ((HM3.out.trans hm).trans (Mv.below hb6 hm.2))
     have HO6 := Lib.hid ((HO3.out.grown hm.1 hlt).below hb6)
     have HK6 := Lib.hid hk6
     have HL6 := Lib.hid hl6
     have hs5 := hm.1.size
     have hs6 := hb6.size
     subst hW6
     clear hm hk hk6 hl6 hb6 hrw hgd hfit
     obtain ⟨a0, a1, a2, a3, a4, a5, a6, a7, a8⟩ := HL6.out.all_9
     go_wp2_with fail
     refine HFT.out.mono ?_
     clear HFT a0 a1 a2 a3 a4 a5 a6 a7 a8
     rintro e w7 ⟨rfl, hb⟩
     have HM7 := Lib.hid (HM6.out.trans (Mv.below hb HM6.out.2))
     have HO7 := Lib.hid (HO6.out.below hb)
     have HK7 := Lib.hid (HK6.out.below hb)
     have HL7 := Lib.hid (HL6.out.next hb)
     have hs7 := hb.size
     clear hb HM6 HO6 HK6 HL6
     have hsz5 : w5.heap.size < w7.heap.size := HL7.out.lt
     cases fit with
     | true =>
       simp only [if_true, Bool.false_eq_true, if_false] at hrun
       have hba : Below w7.heap.size w7 (w7.alloc (.cells #[.int .i64 k, .int .i32 m', .string ty, .string nm, .slice A1 l1.length c1, .slice A2 l2.length c2, .slice A3 l3.length c3, .slice A4 l4.length c4, .int .i64 0] 118)) := (Below.refl _ _).alloc (Nat.le_refl _) _
       have HY := Lib.hid (OwnT.one (T := 118) HK7.out (show wr.heap.size ≤ w7.heap.size by omega))
       simp only [cellsN] at HY
       have HO9 := Lib.hid (HO7.out.below hba)
       have HM9 := Lib.hid (HM7.out.trans (Mv.below hba HM7.out.2))
       have HB9 := Lib.hid HK7.out.2.2
       have hen2 : enoughS m (.loop true (acc ++ [r.1])) r.2 := by simp only [enoughS, Ms.rank] at hen ⊢; omega
       have HRN := Lib.hid hrun
       have HE9 := Lib.hid hen2
       have hwz : w.heap.size ≤ (w7.alloc (.cells #[.int .i64 k, .int .i32 m', .string ty, .string nm, .slice A1 l1.length c1, .slice A2 l2.length c2, .slice A3 l3.length c3, .slice A4 l4.length c4, .int .i64 0] 118)).heap.size := Nat.le_trans (by omega) hba.size
       obtain ⟨a0, a1, a2, a3, a4, a5, a6, a7, a8⟩ := HL7.out.all_9
       have HOL := HO3.out.lt
       clear hba hen hen2 hrun
       go_wp2_with (at_builtin; refine append_any rfl (.tmp 30) (.tmp 32) 46 rfl w.heap.size 118 i0 _ 9 152 Tryz.underlying46 hi hz0 hz1 hz2 rfl (by decide) _ _ _ rfl HO9.out.1 wr.heap.size _ _ _ rfl HY.out.1 HY.out.one' ?c3 ?c4 hwz ?_)
       case c3 => unfold maxLen; simp; omega
       case c4 => simp; omega
       intro v2 w10 hown2 hgrow hat
       have HN := Lib.hid (OwnT.app HO9.out HY.out hws (fun k hk => (HOL k hk).2) (by simp) hown2 hgrow (hat.imp id fun e => by rw [e]; simp) (by simp; omega))
       have HMM := Lib.hid (Mv.row HM9.out hgrow (fun k hk => Nat.ne_of_gt (Nat.lt_of_lt_of_le hlt (HOL k hk).1)) (fun k hk => (HOL k hk).1) hlt)
       have HBB : Hid (bareL (ys ++ [.st k m' ty nm (.slice A1 l1.length c1) (.slice A2 l2.length c2) (.slice A3 l3.length c3) (.slice A4 l4.length c4) l1 l2 l3 l4 0]) = bareL (acc ++ [r.1])) := Lib.hid (by rw [bareL_append, bareL_append, HB3.out]; simp only [bareL]; rw [HB9.out])
       clear hown2 hgrow hat
       go_wp2_with fail
       go_roundw
       case rel => exact ⟨m, _, _, r.2, by omega, HRN.out, HE9.out, HN.out, HBB.out, by simp; omega, HMM.out⟩
       case measure => rw [hla, lenAt_of HMM.out.2]; omega
     | false =>
       simp only [if_true, Bool.false_eq_true, if_false] at hrun
       have HLN := Lib.hid (late_any W0 w7 c r.2 av HM7.out.2)
       go_wp2_with fail
       refine HLN.out.mono ?_
       clear HLN
       rintro e w8 ⟨rfl, hm⟩
       have HM8 := Lib.hid (HM7.out.trans hm)
       have HO8 := Lib.hid (HO7.out.grown hm.1 hlt)
       have HK8 := Lib.hid (HK7.out.grown hm.1 (.inl (by omega)))
       have HL8 := Lib.hid (Bx.grown HL7.out hm.1 (by omega))
       have hs8 := hm.1.size
       clear hm
       have h4 : (r.2.lateN av).len ≤ s'.len - 1 := by rw [len_late]; exact h3
       have hba : Below w8.heap.size w8 (w8.alloc (.cells #[.int .i64 k, .int .i32 m', .string ty, .string nm, .slice A1 l1.length c1, .slice A2 l2.length c2, .slice A3 l3.length c3, .slice A4 l4.length c4, .int .i64 0] 118)) := (Below.refl _ _).alloc (Nat.le_refl _) _
       have HY := Lib.hid (OwnT.one (T := 118) HK8.out (show wr.heap.size ≤ w8.heap.size by omega))
       simp only [cellsN] at HY
       have HO9 := Lib.hid (HO8.out.below hba)
       have HM9 := Lib.hid (HM8.out.trans (Mv.below hba HM8.out.2))
       have HB9 := Lib.hid HK8.out.2.2
       have hen2 : enoughS m (.loop true (acc ++ [r.1])) (r.2.lateN av) := by simp only [enoughS, Ms.rank] at hen ⊢; omega
       have HRN := Lib.hid hrun
       have HE9 := Lib.hid hen2
       have hwz : w.heap.size ≤ (w8.alloc (.cells #[.int .i64 k, .int .i32 m', .string ty, .string nm, .slice A1 l1.length c1, .slice A2 l2.length c2, .slice A3 l3.length c3, .slice A4 l4.length c4, .int .i64 0] 118)).heap.size := Nat.le_trans (by omega) hba.size
       obtain ⟨a0, a1, a2, a3, a4, a5, a6, a7, a8⟩ := HL8.out.all_9
       have HOL := HO3.out.lt
       clear hba hen hen2 hrun
       go_wp2_with (at_builtin; refine append_any rfl (.tmp 30) (.tmp 32) 46 rfl w.heap.size 118 i0 _ 9 152 Tryz.underlying46 hi hz0 hz1 hz2 rfl (by decide) _ _ _ rfl HO9.out.1 wr.heap.size _ _ _ rfl HY.out.1 HY.out.one' ?c3 ?c4 hwz ?_)
       case c3 => unfold maxLen; simp; omega
       case c4 => simp; omega
       intro v2 w10 hown2 hgrow hat
       have HN := Lib.hid (OwnT.app HO9.out HY.out hws (fun k hk => (HOL k hk).2) (by simp) hown2 hgrow (hat.imp id fun e => by rw [e]; simp) (by simp; omega))
       have HMM := Lib.hid (Mv.row HM9.out hgrow (fun k hk => Nat.ne_of_gt (Nat.lt_of_lt_of_le hlt (HOL k hk).1)) (fun k hk => (HOL k hk).1) hlt)
       have HBB : Hid (bareL (ys ++ [.st k m' ty nm (.slice A1 l1.length c1) (.slice A2 l2.length c2) (.slice A3 l3.length c3) (.slice A4 l4.length c4) l1 l2 l3 l4 0]) = bareL (acc ++ [r.1])) := Lib.hid (by rw [bareL_append, bareL_append, HB3.out]; simp only [bareL]; rw [HB9.out])
       clear hown2 hgrow hat
       go_wp2_with fail
       go_roundw
       case rel => exact ⟨m, _, _, (r.2.lateN av), by omega, HRN.out, HE9.out, HN.out, HBB.out, by simp; omega, HMM.out⟩
       case measure => rw [hla, lenAt_of HMM.out.2]; omega
theorem body_of (HE : ExAny) (HAR : ArAny) (n : Nat) (IH : ∀ m, m ≤ n → SpecD m) : SpecD (n + 1) := by
 intro W0 w c s ct hv h hn
 cases ct with
 | false => exact body_false HE HAR n IH W0 w c s hv h hn
 | true => exact body_true HE HAR n IH W0 w c s hv h hn
theorem body_all (HE : ExAny) (HAR : ArAny) : ∀ n, SpecD n := by
 intro n
 induction n using Nat.strongRecOn with
 | ind n ih =>
   cases n with
   | zero => intro W0 w c s ct hv h hn; simp only [enoughS, Ms.rank] at hn; omega
   | succ n => exact body_of HE HAR n fun m hm => ih m (by omega)
theorem bd_any (HE : ExAny) (HAR : ArAny) (W0 w : World) (c : Nat) (s : RS) (ct : Bool) (hv : Vars W0) (h : Rd W0 c s w) : Calls Tryz.prog 118 #[.pointer (some ⟨c, 0, none⟩), .bool ct] w (BlC W0 c w (bd ct s)) := body_all HE HAR (4 * s.len + 3) W0 w c s ct hv h (Nat.le_refl _)
theorem bk_any (HE : ExAny) (HAR : ArAny) (W0 w : World) (c : Nat) (s : RS) (hv : Vars W0) (h : Rd W0 c s w) : Calls Tryz.prog 119 #[.pointer (some ⟨c, 0, none⟩)] w (BlC W0 c w (bd false s)) := block_of _ (body_all HE HAR (4 * s.len + 3)) W0 w c s hv h (Nat.le_refl _)
end
section
open Go.RowKit
def pcells (x : Pm) : List Value := [.string x.1, .string x.2]
def OwnP (B : Nat) (w : World) (v : Value) (l : List Pm) : Prop := w.ownsRow B 95 2 v l.length (l.flatMap pcells) ∧ (∀ x ∈ l, x.1.size ≤ maxLen ∧ x.2.size ≤ maxLen) ∧ l.length ≤ 2000000
theorem OwnP.nil (B : Nat) (w : World) : OwnP B w (.slice none 0 0) [] := ⟨World.ownsRow_nil _ _ _ _, by simp, by simp⟩
theorem OwnP.form {B : Nat} {w : World} {v : Value} {l : List Pm} (h : OwnP B w v l) : ∃ A cap, v = .slice A l.length cap := by obtain ⟨A, cap, e, _⟩ := own_form h.1; exact ⟨A, cap, e⟩
theorem OwnP.lt {B : Nat} {w : World} {v : Value} {l : List Pm} (h : OwnP B w v l) : ∀ k, v.ownBlock = some k → B ≤ k ∧ k < w.heap.size := h.1.lt
theorem OwnP.grown {B c : Nat} {w w' : World} {v : Value} {l : List Pm} (h : OwnP B w v l) (hg : w.grownBy w' (some c)) (hc : c < B) : OwnP B w' v l :=
 ⟨h.1.kept hg (by
   cases hv' : v.ownBlock with
   | none => exact .inl rfl
   | some k => exact .inr (by have := (h.lt k hv').1; simp; omega)), h.2.1, h.2.2⟩
theorem OwnP.below {B : Nat} {w w' : World} {v : Value} {l : List Pm} (h : OwnP B w v l) (hb : Below w.heap.size w w') : OwnP B w' v l := ⟨own_next h.1 hb, h.2.1, h.2.2⟩
theorem OwnP.mono {B C : Nat} {w : World} {v : Value} {l : List Pm} (h : OwnP B w v l) (hC : C ≤ B) : OwnP C w v l := ⟨own_base h.1 hC, h.2.1, h.2.2⟩
theorem pflat_get : ∀ (l : List Pm) (i j : Nat) (x : Pm), l[i]? = some x → j < 2 → (l.flatMap pcells)[i * 2 + j]? = (pcells x)[j]?
 | [], i, j, x, h, _ => by simp at h
 | y :: l, 0, j, x, h, hj => by
   simp only [List.getElem?_cons_zero, Option.some.injEq] at h
   subst h
   simp only [List.flatMap_cons, Nat.zero_mul, Nat.zero_add]
   rw [List.getElem?_append_left (by simpa [pcells] using hj)]
 | y :: l, i + 1, j, x, h, hj => by
   simp only [List.getElem?_cons_succ] at h
   have := pflat_get l i j x h hj
   simp only [List.flatMap_cons]
   rw [List.getElem?_append_right (by simp [pcells]; omega), ← this]
   congr 1
   simp [pcells]; omega
theorem OwnP.fk {B : Nat} {w : World} {v : Value} {l : List Pm} (h : OwnP B w v l) : FkP B w v l := by
 obtain ⟨ho, hs, hm⟩ := h
 intro ws hws
 obtain ⟨A, cap, rfl, hc⟩ := own_form ho
 refine ⟨A, cap, rfl, by unfold maxLen; omega, hs, fun hn => ?_⟩
 obtain ⟨g, cap', hv, hg, hl, hat⟩ := own_row ho hn
 injection hv with h1 h2 h3
 refine ⟨g, 0, h1, fun i x hx => ⟨?_, ?_⟩⟩
 · have := (hat (i * 2 + 0) (.string x.1) (by rw [pflat_get l i 0 x hx (by omega)]; rfl)).1
   rw [Nat.zero_add]
   exact hws g _ _ hg this
 · have := (hat (i * 2 + 1) (.string x.2) (by rw [pflat_get l i 1 x hx (by omega)]; rfl)).1
   rw [Nat.zero_add]
   exact hws g _ _ hg this
theorem pm_one (l : List Pm) : ∀ u ∈ l.flatMap pcells, u.oneCell' = true := by
 intro u hu
 rw [List.mem_flatMap] at hu
 obtain ⟨x, hx, hu⟩ := hu
 simp only [pcells, List.mem_cons, List.not_mem_nil, or_false] at hu
 rcases hu with rfl | rfl <;> rfl
theorem OwnP.one {B : Nat} {W : World} {x : Pm} (hx : x.1.size ≤ maxLen ∧ x.2.size ≤ maxLen) (hB : B ≤ W.heap.size) : OwnP B (W.alloc (.cells #[.string x.1, .string x.2] 95)) (.slice (some ⟨W.heap.size, 0, none⟩) 1 1) [x] := by
 have hl := World.ownsRow_lit (base := B) (e := 95) (size := 2) W #[.string x.1, .string x.2] 1 hB (by unfold maxLen; omega) (by simp)
 exact ⟨by simpa [pcells] using hl, by simpa using hx, by simp⟩
theorem OwnP.app {B B2 : Nat} {w w' : World} {v v2 v' : Value} {xs ys : List Pm} (h : OwnP B w v xs) (h2 : OwnP B2 w v2 ys) (ho : w'.ownsRow B 95 2 v' (xs.length + ys.length) (xs.flatMap pcells ++ ys.flatMap pcells)) (hm : xs.length + ys.length ≤ 2000000) : OwnP B w' v' (xs ++ ys) :=
 ⟨by simpa using ho, fun y hy => by
   rcases List.mem_append.1 hy with hy | hy
   · exact h.2.1 y hy
   · exact h2.2.1 y hy, by simpa using hm⟩
theorem parV_len (s : RS) : (parV s).1.1.size ≤ maxLen ∧ (parV s).1.2.size ≤ maxLen := ⟨typ_len s, name_len s.typ⟩
def PrC (W0 : World) (c : Nat) (w : World) (r : Pm × RS) (e : Ending) (w' : World) : Prop := e = .returned (.agg #[.string r.1.1, .string r.1.2]) ∧ Mv W0 c r.2 w w'
def PsC (W0 : World) (c : Nat) (w : World) (r : List Pm × RS) (e : Ending) (w' : World) : Prop := ∃ v, e = .returned v ∧ OwnP w.heap.size w' v r.1 ∧ Mv W0 c r.2 w w'
def PrAny : Prop := ∀ (W0 w : World) (c : Nat) (s : RS), Rd W0 c s w → Calls Tryz.prog 139 #[.pointer (some ⟨c, 0, none⟩)] w (PrC W0 c w (parV s))
theorem param_any : PrAny := by
 intro W0 w c s h
 have hlt := h.lt
 have hle0 := h.le
 obtain ⟨W1, hW1⟩ : ∃ W1, w.alloc (.cells #[.string ⟨#[]⟩, .string ⟨#[]⟩] 95) = W1 := ⟨_, rfl⟩
 have hb : Below w.heap.size w W1 := by rw [← hW1]; exact (Below.refl _ w).alloc (Nat.le_refl _) _
 have hx : Bx W1 w.heap.size #[.string ⟨#[]⟩, .string ⟨#[]⟩] 95 := by rw [← hW1]; exact Bx.new _ _ _
 have hz : W1.heap.size = w.heap.size + 1 := by rw [← hW1]; simp
 have HM := Lib.hid (Mv.below hb h)
 have HB := Lib.hid hx
 clear hb hx
 have HT : Hid (∀ w', Rd W0 c (s) w' → Calls Tryz.prog 88 #[.pointer (some ⟨c, 0, none⟩)] w' fun e w'' => e = .returned (.string s.typV) ∧ Mv W0 c (s.typ) w' w'') := by
   show ∀ w', _
   intro w' h'; exact type_any W0 w' c _ h'
 have HNM : Hid (∀ w', Rd W0 c (s.typ) w' → Calls Tryz.prog 87 #[.pointer (some ⟨c, 0, none⟩)] w' fun e w'' => e = .returned (.string s.typ.nameV) ∧ Mv W0 c (s.typ.name) w' w'') := by
   show ∀ w', _
   intro w' h'; exact nameR_any W0 w' c _ h'
 obtain ⟨t, ht⟩ : ∃ t, s.typV = t := ⟨_, rfl⟩
 obtain ⟨n, hn⟩ : ∃ n, s.typ.nameV = n := ⟨_, rfl⟩
 obtain ⟨s2, hs2⟩ : ∃ s2, s.typ.name = s2 := ⟨_, rfl⟩
 have hR : parV s = ((t, n), s2) := by rw [← ht, ← hn, ← hs2]; rfl
 rw [ht] at HT
 rw [hn, hs2] at HNM
 rw [hR]
 clear hR ht hn hs2 h
 go_enter Tryz.func139, Tryz.ntmps139
 go_wp2_with fail
 refine (HT.out _ HM.out.2).mono ?_
 clear HT hW1
 rintro e w2 ⟨rfl, hm⟩
 replace HM := Lib.hid (HM.out.trans hm)
 replace HB := Lib.hid (Bx.grown HB.out hm.1 (by omega))
 have hs2 := hm.1.size
 clear hm
 go_wp2_with fail
 refine (HNM.out _ HM.out.2).mono ?_
 clear HNM
 rintro e w3 ⟨rfl, hm⟩
 replace HM := Lib.hid (HM.out.trans hm)
 replace HB := Lib.hid (Bx.grown HB.out hm.1 (by omega))
 have hs3 := hm.1.size
 clear hm
 obtain ⟨r0, r1⟩ := HB.out.all_2
 have g0 := HB.out.fro 0; have g1 := HB.out.fro 1
 have HG := Lib.hid (grown_2 w3 w.heap.size (.string t) (.string n))
 go_wp2_with fail
 obtain ⟨z0, z1⟩ := (HB.out.to_2 (.string t) (.string n)).all_2
 (try simp only [Exit.inBlock, Exit.then])
 refine bodyPost_ret (v := .agg #[.string t, .string n]) (by simp [results, Tryz.results139, go_sem, z0, z1]) rfl ?_
 exact ⟨rfl, Mv.over (Below.refl _ _) HM.out HG.out (Nat.le_refl _) hlt⟩
theorem listedP_any (HP : PrAny) (W0 w : World) (c : Nat) (s : RS) (h : Rd W0 c s w) : Calls Tryz.prog 138 #[.pointer (some ⟨c, 0, none⟩), .func (.func 139) #[] #[]] w (PsC W0 c w (lstP s)) := by
 have hlt := h.lt
 have hle0 := h.le
 have HS := Lib.hid (sees_any W0 w c s sShut h)
 cases hsee : s.sees 0 sShut with
 | true =>
   have hR : lstP s = ([], s) := by simp only [lstP, hsee, if_true]
   rw [hsee] at HS
   have HM := Lib.hid (Mv.refl h)
   rw [hR]
   clear hR hsee h HP
   go_enter Tryz.func138, Tryz.ntmps138
   go_wp2_with fail
   refine HS.out.mono ?_
   clear HS
   rintro e w1 ⟨rfl, rfl⟩
   go_wp2_with fail
   go_ret
   exact ⟨_, rfl, OwnP.nil _ _, HM.out⟩
 | false =>
   obtain ⟨r, hr⟩ : ∃ r, parV s = r := ⟨_, rfl⟩
   obtain ⟨R, hR⟩ : ∃ R, moreP (s.len + 1) [r.1] r.2 = R := ⟨_, rfl⟩
   have hRR : lstP s = R := by simp only [lstP, hsee, hr, hR]; simp
   have hl1 : r.2.len ≤ s.len - 1 := by rw [← hr]; exact len_parV s
   have hz : r.1.1.size ≤ maxLen ∧ r.1.2.size ≤ maxLen := by rw [← hr]; exact parV_len s
   have hfew := h.few
   have HX := Lib.hid (HP W0 w c s h)
   rw [hr] at HX
   rw [hsee] at HS
   rw [hRR]
   have HIH := Lib.hid HP
   have HR := Lib.hid hR
   obtain ⟨sl, hsl⟩ : ∃ sl, s.len = sl := ⟨_, rfl⟩
   rw [hsl] at HR hl1 hfew
   obtain ⟨⟨p1, p2⟩, s1⟩ := r
   simp only at HR hl1 hz
   obtain ⟨i0, hi, hz0, hz1, hz2⟩ := info_parts Tryz.infoPm
   clear hr hR hRR h HP hsee hsl
   go_enter Tryz.func138, Tryz.ntmps138
   go_wp2_with fail
   refine HS.out.mono ?_
   clear HS
   rintro e w1 ⟨rfl, rfl⟩
   go_wp2_with fail
   refine HX.out.mono ?_
   clear HX
   rintro e w2 ⟨rfl, hm⟩
   have HO := Lib.hid (OwnP.one (x := (p1, p2)) hz (show w.heap.size ≤ w2.heap.size from hm.1.size))
   have HM2 := Lib.hid (hm.trans (Mv.below ((Below.refl _ w2).alloc (Nat.le_refl _) (.cells #[.string p1, .string p2] 95)) hm.2))
   clear hm
   go_wp2_with fail
   go_loopw [5] (fun v5 wr => ∃ (m : Nat) (acc : List Pm) (s' : RS), moreP m acc s' = R ∧ s'.len < m ∧ OwnP w.heap.size wr v5 acc ∧ acc.length + s'.len ≤ 1000001 ∧ Mv W0 c s' w wr) (fun v5 wr => lenAt wr c)
   case atStart => exact ⟨sl + 1, _, s1, HR.out, by omega, HO.out, by simp; omega, HM2.out⟩
   case round =>
     obtain ⟨m, acc, s', hrun, hen, ho, hbd, hm⟩ := hrel
     obtain ⟨m, rfl⟩ : ∃ m', m = m' + 1 := ⟨m - 1, by omega⟩
     have hla := lenAt_of hm.2
     cases hsee : s'.sees 0 sComma with
     | false =>
       have HT := Lib.hid (take_false W0 wr c s' sComma hm.2 hsee)
       have hR : moreP (m + 1) acc s' = (acc, s') := by simp only [moreP, hsee]; simp
       rw [hR] at hrun
       have HM3 := Lib.hid hm
       have HO3 := Lib.hid ho
       subst hrun
       obtain ⟨A3, cap3, rfl⟩ := ho.form
       clear hR hsee hm ho hla hen hbd
       go_wp2_with fail
       refine HT.out.mono ?_
       clear HT
       rintro e w5 ⟨rfl, rfl⟩
       go_wp2_with fail
       go_ret
       exact ⟨_, rfl, HO3.out, HM3.out⟩
     | true =>
       have HT := Lib.hid (take_true W0 wr c s' sComma hm.2 hsee)
       obtain ⟨q, hq⟩ : ∃ q, parV s'.skip = q := ⟨_, rfl⟩
       have hR : moreP (m + 1) acc s' = moreP m (acc ++ [q.1]) q.2 := by simp only [moreP, hsee, hq]; simp
       rw [hR] at hrun
       have h1 := sees_len hsee
       have h2 := len_skip s'
       have h3 : q.2.len ≤ s'.skip.len - 1 := by rw [← hq]; exact len_parV _
       have hz : q.1.1.size ≤ maxLen ∧ q.1.2.size ≤ maxLen := by rw [← hq]; exact parV_len _
       have HX : Hid (∀ w', Rd W0 c s'.skip w' → Calls Tryz.prog 139 #[.pointer (some ⟨c, 0, none⟩)] w' (PrC W0 c w' q)) := by
         show ∀ w', _
         intro w' h'; have := HIH.out W0 w' c _ h'; rw [hq] at this; exact this
       have HM3 := Lib.hid hm
       have HO3 := Lib.hid ho
       have HRUN := Lib.hid hrun
       obtain ⟨A3, cap3, rfl⟩ := ho.form
       obtain ⟨⟨q1, q2⟩, s2⟩ := q
       simp only at hz h3
       clear hR hsee hm ho hrun hq
       go_wp2_with fail
       refine HT.out.mono ?_
       clear HT
       rintro e w5 ⟨rfl, hm⟩
       have HM4 := Lib.hid hm
       clear hm
       go_wp2_with fail
       refine (HX.out _ HM4.out.2).mono ?_
       clear HX
       rintro e w6 ⟨rfl, hm⟩
       have hsz : w.heap.size ≤ wr.heap.size := HM3.out.1.size
       have hsz4 := HM4.out.1.size
       have hsz6 := hm.1.size
       have hba : Below w6.heap.size w6 (w6.alloc (.cells #[.string q1, .string q2] 95)) := (Below.refl _ _).alloc (Nat.le_refl _) _
       have HY := Lib.hid (OwnP.one (x := (q1, q2)) hz (show wr.heap.size ≤ w6.heap.size by omega))
       have HO5 := Lib.hid (((HO3.out.grown HM4.out.1 hlt).grown hm.1 hlt).below hba)
       have HMT := Lib.hid (HM3.out.trans (HM4.out.trans (hm.trans (Mv.below hba hm.2))))
       have hwz : w.heap.size ≤ (w6.alloc (.cells #[.string q1, .string q2] 95)).heap.size := Nat.le_trans (by omega) hba.size
       have HOL := HO3.out.lt
       clear hm hba
       go_wp2_with (at_builtin; refine append_any rfl (.tmp 14) (.tmp 18) 45 rfl w.heap.size 95 i0 _ 2 32 Tryz.underlying45 hi hz0 hz1 hz2 rfl (by decide) _ _ _ rfl HO5.out.1 wr.heap.size _ _ _ rfl HY.out.1 (pm_one _) ?c3 ?c4 hwz ?_)
       case c3 => unfold maxLen; simp; omega
       case c4 => simp; omega
       intro v2 w7 hown2 hgrow hat
       have HN := Lib.hid (OwnP.app HO5.out HY.out hown2 (by simp; omega))
       have HM7 := Lib.hid (Mv.row HMT.out hgrow (fun k hk => Nat.ne_of_gt (Nat.lt_of_lt_of_le hlt (HOL k hk).1)) (fun k hk => (HOL k hk).1) hlt)
       clear hown2 hgrow hat
       go_wp2_with fail
       go_roundw
       case rel => exact ⟨m, _, s2, HRUN.out, by omega, HN.out, by simp; omega, HM7.out⟩
       case measure => rw [hla, lenAt_of HM7.out.2]; omega
theorem params_any (W0 w : World) (c : Nat) (s : RS) (h : Rd W0 c s w) : Calls Tryz.prog 117 #[.pointer (some ⟨c, 0, none⟩)] w (PsC W0 c w (parP s)) := by
 obtain ⟨q, hq⟩ : ∃ q, lstP (s.need sOpen) = q := ⟨_, rfl⟩
 have hR : parP s = (q.1, q.2.need sShut) := by rw [← hq]; rfl
 have hlt := h.lt
 have hle0 := h.le
 have HN0 : Hid (∀ w', Rd W0 c (s) w' → Calls Tryz.prog 55 #[.pointer (some ⟨c, 0, none⟩), .string sOpen] w' fun e w'' => e = .returned (.tuple #[]) ∧ Mv W0 c (RS.need (s) sOpen) w' w'') := by
   show ∀ w', _
   intro w' h'; exact need_any W0 w' c _ sOpen h'
 have HX : Hid (∀ w', Rd W0 c (s.need sOpen) w' → Calls Tryz.prog 138 #[.pointer (some ⟨c, 0, none⟩), .func (.func 139) #[] #[]] w' (PsC W0 c w' q)) := by
   show ∀ w', _
   intro w' h'; have := listedP_any param_any W0 w' c _ h'; rw [hq] at this; exact this
 have HN : Hid (∀ w', Rd W0 c (q.2) w' → Calls Tryz.prog 55 #[.pointer (some ⟨c, 0, none⟩), .string sShut] w' fun e w'' => e = .returned (.tuple #[]) ∧ Mv W0 c (RS.need (q.2) sShut) w' w'') := by
   show ∀ w', _
   intro w' h'; exact need_any W0 w' c _ sShut h'
 rw [hR]
 have HM := Lib.hid (Mv.refl h)
 clear hR hq h
 go_enter Tryz.func117, Tryz.ntmps117
 go_wp2_with fail
 refine (HN0.out _ HM.out.2).mono ?_
 clear HN0
 rintro e w1 ⟨rfl, hm⟩
 replace HM := Lib.hid (HM.out.trans hm)
 have hs1 := hm.1.size
 clear hm
 go_wp2_with fail
 refine (HX.out _ HM.out.2).mono ?_
 clear HX
 rintro e w2 ⟨v, rfl, ho, hm⟩
 obtain ⟨A, cap, rfl⟩ := ho.form
 have HO := Lib.hid (ho.mono (show w.heap.size ≤ _ by omega))
 replace HM := Lib.hid (HM.out.trans hm)
 clear hm ho
 go_wp2_with fail
 refine (HN.out _ HM.out.2).mono ?_
 clear HN
 rintro e w3 ⟨rfl, hm⟩
 replace HM := Lib.hid (HM.out.trans hm)
 replace HO := Lib.hid (HO.out.grown hm.1 hlt)
 clear hm
 go_wp2_with fail
 go_ret
 exact ⟨_, rfl, HO.out, HM.out⟩
end
section
open Go.RowKit
def MtF (y : Nd) : Prop := ∃ (st ct : Bool) (ty nm : ByteArray) (A1 A2 : Option Addr) (c1 c2 : Nat) (ps : List Pm) (l : List Nd), y = .mt st ct ty nm (.slice A1 ps.length c1) ps (.slice A2 l.length c2) l
def FdF (y : Nd) : Prop := ∃ (st : Bool) (ty nm : ByteArray) (A1 : Option Addr) (c1 : Nat) (l : List Nd), y = .fd st ty nm (.slice A1 l.length c1) l
def MtC (W0 : World) (c : Nat) (w : World) (r : Nd × RS) (e : Ending) (w' : World) : Prop := ∃ y, e = .returned (.agg (cellsN y).toArray) ∧ MtF y ∧ NK .mt w.heap.size none w' r.1 y ∧ Mv W0 c r.2 w w'
def FdC (W0 : World) (c : Nat) (w : World) (r : Nd × RS) (e : Ending) (w' : World) : Prop := ∃ y, e = .returned (.agg (cellsN y).toArray) ∧ FdF y ∧ NK .fd w.heap.size none w' r.1 y ∧ Mv W0 c r.2 w w'
theorem method_any (HE : ExAny) (HAR : ArAny) (W0 w : World) (c : Nat) (s : RS) (st : Bool) (ty nm : ByteArray) (hty : ty.size ≤ maxLen) (hnm : nm.size ≤ maxLen) (hv : Vars W0) (h : Rd W0 c s w) : Calls Tryz.prog 86 #[.pointer (some ⟨c, 0, none⟩), .agg #[.bool st, .bool false, .string ty, .string nm, .slice none 0 0, .slice none 0 0]] w (MtC W0 c w (metM st ty nm s)) := by
 obtain ⟨q, hq⟩ : ∃ q, parP s = q := ⟨_, rfl⟩
 obtain ⟨a, ha⟩ : ∃ a, bd false q.2 = a := ⟨_, rfl⟩
 have HRE : Hid (metM st ty nm s = (mkM st false ty nm q.1 a.1, a.2)) := Lib.hid (by simp only [metM, hq, ha])
 obtain ⟨RR, hRR⟩ : ∃ RR, metM st ty nm s = RR := ⟨_, rfl⟩
 rw [hRR] at HRE ⊢
 have hlt := h.lt
 have hle0 := h.le
 obtain ⟨W1, hW1⟩ : ∃ W1, (w.alloc (.cells #[.bool st, .bool false, .string ty, .string nm, .slice none 0 0, .slice none 0 0] 48)).alloc (.cells #[.bool false, .bool false, .string ⟨#[]⟩, .string ⟨#[]⟩, .slice none 0 0, .slice none 0 0] 48) = W1 := ⟨_, rfl⟩
 have hb : Below w.heap.size w W1 := by rw [← hW1]; exact ((Below.refl _ w).alloc (Nat.le_refl _) _).alloc (by simp) _
 have hx1 : Bx W1 w.heap.size #[.bool st, .bool false, .string ty, .string nm, .slice none 0 0, .slice none 0 0] 48 := by rw [← hW1]; exact (Bx.new _ _ _).next ((Below.refl _ _).alloc (Nat.le_refl _) _)
 have hx2 : Bx W1 (w.heap.size + 1) #[.bool false, .bool false, .string ⟨#[]⟩, .string ⟨#[]⟩, .slice none 0 0, .slice none 0 0] 48 := by
   rw [← hW1]
   have := Bx.new (w.alloc (.cells #[.bool st, .bool false, .string ty, .string nm, .slice none 0 0, .slice none 0 0] 48)) #[.bool false, .bool false, .string ⟨#[]⟩, .string ⟨#[]⟩, .slice none 0 0, .slice none 0 0] 48
   simpa using this
 have hz : W1.heap.size = w.heap.size + 2 := by rw [← hW1]; simp
 have HM := Lib.hid (Mv.below hb h)
 have HB := Lib.hid hx2
 have HL := Lib.hid hx1
 clear hb hx1 hx2
 have HC : Hid (∀ w', Rd W0 c s w' → Calls Tryz.prog 117 #[.pointer (some ⟨c, 0, none⟩)] w' (PsC W0 c w' q)) := by
   show ∀ w', _
   intro w' h'; have := params_any W0 w' c _ h'; rw [hq] at this; exact this
 have HA : Hid (∀ w', Rd W0 c (q.2) w' → Calls Tryz.prog 119 #[.pointer (some ⟨c, 0, none⟩)] w' (BlC W0 c w' a)) := by
   show ∀ w', _
   intro w' h'; have := bk_any HE HAR W0 w' c _ hv h'; rw [ha] at this; exact this
 clear hRR hq ha h hv HE HAR
 go_enter Tryz.func86, Tryz.ntmps86
 go_wp2_with fail
 refine (HC.out _ HM.out.2).mono ?_
 clear HC hW1
 rintro e w2 ⟨v, rfl, ho, hm⟩
 obtain ⟨A1, c1, rfl⟩ := ho.form
 have HP := Lib.hid (ho.fk.mono (show w.heap.size + 2 ≤ _ by omega))
 replace HM := Lib.hid (HM.out.trans hm)
 replace HB := Lib.hid (Bx.grown HB.out hm.1 (by omega))
 replace HL := Lib.hid (Bx.grown HL.out hm.1 (by omega))
 have hs2 := hm.1.size
 clear hm ho
 go_wp2_with fail
 refine (HA.out _ HM.out.2).mono ?_
 clear HA
 rintro e w3 ⟨v2, ys, rfl, ho, hq2, hm⟩
 obtain ⟨A2, c2, rfl⟩ := fk_len ho
 have HF := Lib.hid (ho.mono (show w.heap.size + 2 ≤ _ by omega))
 have HQ := Lib.hid hq2
 replace HM := Lib.hid (HM.out.trans hm)
 replace HB := Lib.hid (Bx.grown HB.out hm.1 (by omega))
 replace HL := Lib.hid (Bx.grown HL.out hm.1 (by omega))
 have hs3 := hm.1.size
 replace HP := Lib.hid (HP.out.grown hm.1 (by omega))
 clear hm ho hq2
 obtain ⟨x0, x1, x2, x3, x4, x5⟩ := HL.out.all_6
 have gx4 := HL.out.fro 4; have gx5 := HL.out.fro 5
 obtain ⟨W4, hW4⟩ : ∃ W, (w3.setCell ⟨w.heap.size, 4, none⟩ (.slice A1 q.1.length c1)).setCell ⟨w.heap.size, 5, none⟩ (.slice A2 ys.length c2) = W := ⟨_, rfl⟩
 have hg : w3.grownBy W4 (some w.heap.size) := by rw [← hW4]; exact (grown_set_at _ _ _ _).trans (grown_set_at _ _ _ _)
 have hl2 : Bx W4 w.heap.size #[.bool st, .bool false, .string ty, .string nm, .slice A1 q.1.length c1, .slice A2 ys.length c2] 48 := by
   rw [← hW4]
   have := (HL.out.set 4 (.slice A1 q.1.length c1)).set 5 (.slice A2 ys.length c2)
   simpa using this
 replace HM := Lib.hid (Mv.over (Below.refl _ _) HM.out hg (Nat.le_refl _) hlt)
 replace HB := Lib.hid (Bx.grown HB.out hg (by omega))
 replace HP := Lib.hid (HP.out.grown hg (by omega))
 replace HF := Lib.hid (HF.out.grown hg (by omega))
 have hs4 := hg.size
 obtain ⟨y0, y1, y2, y3, y4, y5⟩ := hl2.all_6
 clear hl2 hg HL
 obtain ⟨r0, r1, r2, r3, r4, r5⟩ := HB.out.all_6
 have g0 := HB.out.fro 0; have g1 := HB.out.fro 1; have g2 := HB.out.fro 2; have g3 := HB.out.fro 3; have g4 := HB.out.fro 4; have g5 := HB.out.fro 5
 have HG := Lib.hid (grown_6 W4 (w.heap.size + 1) (.bool st) (.bool false) (.string ty) (.string nm) (.slice A1 q.1.length c1) (.slice A2 ys.length c2))
 go_wp2_with fail
 obtain ⟨z0, z1, z2, z3, z4, z5⟩ := (HB.out.to_6 (.bool st) (.bool false) (.string ty) (.string nm) (.slice A1 q.1.length c1) (.slice A2 ys.length c2)).all_6
 (try simp only [Exit.inBlock, Exit.then])
 refine bodyPost_ret (v := .agg #[.bool st, .bool false, .string ty, .string nm, .slice A1 q.1.length c1, .slice A2 ys.length c2]) (by simp [results, Tryz.results86, go_sem, z0, z1, z2, z3, z4, z5]) rfl ?_
 rw [HRE.out]
 exact ⟨.mt st false ty nm (.slice A1 q.1.length c1) q.1 (.slice A2 ys.length c2) ys, rfl, ⟨_, _, _, _, _, _, _, _, _, _, rfl⟩, ((mt_node (B := w.heap.size + 2) ⟨hty, hnm⟩ HP.out HF.out HQ.out).grown HG.out (.inl (by omega))).mono (by omega), Mv.over (Below.refl _ _) HM.out HG.out (by omega) hlt⟩
theorem ctor_any (HE : ExAny) (HAR : ArAny) (W0 w : World) (c : Nat) (s : RS) (hv : Vars W0) (h : Rd W0 c s w) (hne : s.ws ≠ []) : Calls Tryz.prog 85 #[.pointer (some ⟨c, 0, none⟩)] w (MtC W0 c w (ctoM s)) := by
 obtain ⟨q, hq⟩ : ∃ q, parP s.skip = q := ⟨_, rfl⟩
 obtain ⟨a, ha⟩ : ∃ a, bd true q.2 = a := ⟨_, rfl⟩
 have HRE : Hid (ctoM s = (mkM false true E0 E0 q.1 a.1, a.2)) := Lib.hid (by simp only [ctoM, hq, ha])
 obtain ⟨RR, hRR⟩ : ∃ RR, ctoM s = RR := ⟨_, rfl⟩
 rw [hRR] at HRE ⊢
 have hlt := h.lt
 have hle0 := h.le
 obtain ⟨W1, hW1⟩ : ∃ W1, w.alloc (.cells #[.bool false, .bool false, .string ⟨#[]⟩, .string ⟨#[]⟩, .slice none 0 0, .slice none 0 0] 48) = W1 := ⟨_, rfl⟩
 have hb : Below w.heap.size w W1 := by rw [← hW1]; exact (Below.refl _ w).alloc (Nat.le_refl _) _
 have hx : Bx W1 w.heap.size #[.bool false, .bool false, .string ⟨#[]⟩, .string ⟨#[]⟩, .slice none 0 0, .slice none 0 0] 48 := by rw [← hW1]; exact Bx.new _ _ _
 have hz : W1.heap.size = w.heap.size + 1 := by rw [← hW1]; simp
 have HM := Lib.hid (Mv.below hb h)
 have HB := Lib.hid hx
 clear hb hx
 have HT := Lib.hid (skip_any W0 W1 c s HM.out.2 hne)
 have HC : Hid (∀ w', Rd W0 c s.skip w' → Calls Tryz.prog 117 #[.pointer (some ⟨c, 0, none⟩)] w' (PsC W0 c w' q)) := by
   show ∀ w', _
   intro w' h'; have := params_any W0 w' c _ h'; rw [hq] at this; exact this
 have HA : Hid (∀ w', Rd W0 c q.2 w' → Calls Tryz.prog 118 #[.pointer (some ⟨c, 0, none⟩), .bool true] w' (BlC W0 c w' a)) := by
   show ∀ w', _
   intro w' h'; have := bd_any HE HAR W0 w' c _ true hv h'; rw [ha] at this; exact this
 clear hRR hq ha h hv hne HE HAR
 go_enter Tryz.func85, Tryz.ntmps85
 go_wp2_with fail
 refine HT.out.mono ?_
 clear HT hW1
 rintro e w2 ⟨rfl, hm⟩
 replace HM := Lib.hid (HM.out.trans hm)
 replace HB := Lib.hid (Bx.grown HB.out hm.1 (by omega))
 have hs2 := hm.1.size
 clear hm
 go_wp2_with fail
 refine (HC.out _ HM.out.2).mono ?_
 clear HC
 rintro e w3 ⟨v, rfl, ho, hm⟩
 obtain ⟨A1, c1, rfl⟩ := ho.form
 have HP := Lib.hid (ho.fk.mono (show w.heap.size + 1 ≤ _ by omega))
 replace HM := Lib.hid (HM.out.trans hm)
 replace HB := Lib.hid (Bx.grown HB.out hm.1 (by omega))
 have hs3 := hm.1.size
 clear hm ho
 go_wp2_with fail
 refine (HA.out _ HM.out.2).mono ?_
 clear HA
 rintro e w4 ⟨v2, ys, rfl, ho, hq2, hm⟩
 obtain ⟨A2, c2, rfl⟩ := fk_len ho
 have HF := Lib.hid (ho.mono (show w.heap.size + 1 ≤ _ by omega))
 have HQ := Lib.hid hq2
 replace HM := Lib.hid (HM.out.trans hm)
 replace HB := Lib.hid (Bx.grown HB.out hm.1 (by omega))
 have hs4 := hm.1.size
 replace HP := Lib.hid (HP.out.grown hm.1 (by omega))
 clear hm ho hq2
 obtain ⟨r0, r1, r2, r3, r4, r5⟩ := HB.out.all_6
 have g0 := HB.out.fro 0; have g1 := HB.out.fro 1; have g2 := HB.out.fro 2; have g3 := HB.out.fro 3; have g4 := HB.out.fro 4; have g5 := HB.out.fro 5
 have HG := Lib.hid (grown_6 w4 w.heap.size (.bool false) (.bool true) (.string ⟨#[]⟩) (.string ⟨#[]⟩) (.slice A1 q.1.length c1) (.slice A2 ys.length c2))
 go_wp2_with fail
 obtain ⟨z0, z1, z2, z3, z4, z5⟩ := (HB.out.to_6 (.bool false) (.bool true) (.string ⟨#[]⟩) (.string ⟨#[]⟩) (.slice A1 q.1.length c1) (.slice A2 ys.length c2)).all_6
 (try simp only [Exit.inBlock, Exit.then])
 refine bodyPost_ret (v := .agg #[.bool false, .bool true, .string ⟨#[]⟩, .string ⟨#[]⟩, .slice A1 q.1.length c1, .slice A2 ys.length c2]) (by simp [results, Tryz.results85, go_sem, z0, z1, z2, z3, z4, z5]) rfl ?_
 rw [HRE.out]
 exact ⟨.mt false true ⟨#[]⟩ ⟨#[]⟩ (.slice A1 q.1.length c1) q.1 (.slice A2 ys.length c2) ys, rfl, ⟨_, _, _, _, _, _, _, _, _, _, rfl⟩, ((mt_node (B := w.heap.size + 1) ⟨Nat.zero_le _, Nat.zero_le _⟩ HP.out HF.out HQ.out).grown HG.out (.inl (by omega))).mono (by omega), Mv.over (Below.refl _ _) HM.out HG.out (Nat.le_refl _) hlt⟩
theorem field_0 (HE : ExAny) (W0 w : World) (c : Nat) (s : RS) (st : Bool) (ty nm : ByteArray) (hty : ty.size ≤ maxLen) (hnm : nm.size ≤ maxLen) (hv : Vars W0) (h : Rd W0 c s w) (hel : s.sees 0 sEq = false) : Calls Tryz.prog 89 #[.pointer (some ⟨c, 0, none⟩), .agg #[.bool st, .string ty, .string nm, .slice none 0 0]] w (FdC W0 c w (fldM st ty nm s)) := by
 have HRE : Hid (fldM st ty nm s = (mkF st ty nm [], s.need sSemi)) := Lib.hid (by simp only [fldM, hel]; simp)
 obtain ⟨RR, hRR⟩ : ∃ RR, fldM st ty nm s = RR := ⟨_, rfl⟩
 rw [hRR] at HRE ⊢
 have hlt := h.lt
 have hle0 := h.le
 obtain ⟨W1, hW1⟩ : ∃ W1, (w.alloc (.cells #[.bool st, .string ty, .string nm, .slice none 0 0] 61)).alloc (.cells #[.bool false, .string ⟨#[]⟩, .string ⟨#[]⟩, .slice none 0 0] 61) = W1 := ⟨_, rfl⟩
 have hb : Below w.heap.size w W1 := by rw [← hW1]; exact ((Below.refl _ w).alloc (Nat.le_refl _) _).alloc (by simp) _
 have hx1 : Bx W1 w.heap.size #[.bool st, .string ty, .string nm, .slice none 0 0] 61 := by rw [← hW1]; exact (Bx.new _ _ _).next ((Below.refl _ _).alloc (Nat.le_refl _) _)
 have hx2 : Bx W1 (w.heap.size + 1) #[.bool false, .string ⟨#[]⟩, .string ⟨#[]⟩, .slice none 0 0] 61 := by
   rw [← hW1]
   have := Bx.new (w.alloc (.cells #[.bool st, .string ty, .string nm, .slice none 0 0] 61)) #[.bool false, .string ⟨#[]⟩, .string ⟨#[]⟩, .slice none 0 0] 61
   simpa using this
 have hz : W1.heap.size = w.heap.size + 2 := by rw [← hW1]; simp
 have HM := Lib.hid (Mv.below hb h)
 have HB := Lib.hid hx2
 have HL := Lib.hid hx1
 clear hb hx1 hx2
 have HT := Lib.hid (take_false W0 W1 c s sEq HM.out.2 hel)
 have HN : Hid (∀ w', Rd W0 c (s) w' → Calls Tryz.prog 55 #[.pointer (some ⟨c, 0, none⟩), .string sSemi] w' fun e w'' => e = .returned (.tuple #[]) ∧ Mv W0 c (RS.need (s) sSemi) w' w'') := by
   show ∀ w', _
   intro w' h'; exact need_any W0 w' c _ sSemi h'
 clear hRR h hv hel HE
 go_enter Tryz.func89, Tryz.ntmps89
 go_wp2_with fail
 refine HT.out.mono ?_
 clear HT
 rintro e w2 ⟨rfl, rfl⟩
 go_wp2_with fail
 refine (HN.out _ HM.out.2).mono ?_
 clear HN hW1
 rintro e w3 ⟨rfl, hm⟩
 replace HM := Lib.hid (HM.out.trans hm)
 replace HB := Lib.hid (Bx.grown HB.out hm.1 (by omega))
 replace HL := Lib.hid (Bx.grown HL.out hm.1 (by omega))
 have hs3 := hm.1.size
 clear hm
 obtain ⟨y0, y1, y2, y3⟩ := HL.out.all_4
 obtain ⟨r0, r1, r2, r3⟩ := HB.out.all_4
 have g0 := HB.out.fro 0; have g1 := HB.out.fro 1; have g2 := HB.out.fro 2; have g3 := HB.out.fro 3
 have HG := Lib.hid (grown_4 w3 (w.heap.size + 1) (.bool st) (.string ty) (.string nm) (.slice none 0 0))
 go_wp2_with fail
 obtain ⟨z0, z1, z2, z3⟩ := (HB.out.to_4 (.bool st) (.string ty) (.string nm) (.slice none 0 0)).all_4
 (try simp only [Exit.inBlock, Exit.then])
 refine bodyPost_ret (v := .agg #[.bool st, .string ty, .string nm, .slice none 0 0]) (by simp [results, Tryz.results89, go_sem, z0, z1, z2, z3]) rfl ?_
 rw [HRE.out]
 exact ⟨.fd st ty nm (.slice none 0 0) [], rfl, ⟨_, _, _, _, _, [], rfl⟩, ((fd_node (B := w.heap.size + 2) ⟨hty, hnm⟩ (FkL.nil _ _ _) rfl).grown HG.out (.inl (by omega))).mono (by omega), Mv.over (Below.refl _ _) HM.out HG.out (by omega) hlt⟩
theorem field_1 (HE : ExAny) (W0 w : World) (c : Nat) (s : RS) (st : Bool) (ty nm : ByteArray) (hty : ty.size ≤ maxLen) (hnm : nm.size ≤ maxLen) (hv : Vars W0) (h : Rd W0 c s w) (hel : s.sees 0 sEq = true) : Calls Tryz.prog 89 #[.pointer (some ⟨c, 0, none⟩), .agg #[.bool st, .string ty, .string nm, .slice none 0 0]] w (FdC W0 c w (fldM st ty nm s)) := by
 obtain ⟨q, hq⟩ : ∃ q, ex s.skip = q := ⟨_, rfl⟩
 have HRE : Hid (fldM st ty nm s = (mkF st ty nm [hdE q.1], q.2.need sSemi)) := Lib.hid (by simp only [fldM, hel, if_true, hq])
 obtain ⟨RR, hRR⟩ : ∃ RR, fldM st ty nm s = RR := ⟨_, rfl⟩
 rw [hRR] at HRE ⊢
 have hlt := h.lt
 have hle0 := h.le
 obtain ⟨W1, hW1⟩ : ∃ W1, (w.alloc (.cells #[.bool st, .string ty, .string nm, .slice none 0 0] 61)).alloc (.cells #[.bool false, .string ⟨#[]⟩, .string ⟨#[]⟩, .slice none 0 0] 61) = W1 := ⟨_, rfl⟩
 have hb : Below w.heap.size w W1 := by rw [← hW1]; exact ((Below.refl _ w).alloc (Nat.le_refl _) _).alloc (by simp) _
 have hx1 : Bx W1 w.heap.size #[.bool st, .string ty, .string nm, .slice none 0 0] 61 := by rw [← hW1]; exact (Bx.new _ _ _).next ((Below.refl _ _).alloc (Nat.le_refl _) _)
 have hx2 : Bx W1 (w.heap.size + 1) #[.bool false, .string ⟨#[]⟩, .string ⟨#[]⟩, .slice none 0 0] 61 := by
   rw [← hW1]
   have := Bx.new (w.alloc (.cells #[.bool st, .string ty, .string nm, .slice none 0 0] 61)) #[.bool false, .string ⟨#[]⟩, .string ⟨#[]⟩, .slice none 0 0] 61
   simpa using this
 have hz : W1.heap.size = w.heap.size + 2 := by rw [← hW1]; simp
 have HM := Lib.hid (Mv.below hb h)
 have HB := Lib.hid hx2
 have HL := Lib.hid hx1
 clear hb hx1 hx2
 have HT := Lib.hid (take_true W0 W1 c s sEq HM.out.2 hel)
 have HX : Hid (∀ w', Rd W0 c (s.skip) w' → Calls Tryz.prog 28 #[.pointer (some ⟨c, 0, none⟩)] w' (ExC W0 c w' q)) := by
   show ∀ w', _
   intro w' h'; have := HE W0 w' c _ hv h'; rw [hq] at this; exact this
 have HN : Hid (∀ w', Rd W0 c (q.2) w' → Calls Tryz.prog 55 #[.pointer (some ⟨c, 0, none⟩), .string sSemi] w' fun e w'' => e = .returned (.tuple #[]) ∧ Mv W0 c (RS.need (q.2) sSemi) w' w'') := by
   show ∀ w', _
   intro w' h'; exact need_any W0 w' c _ sSemi h'
 clear hRR hq h hv hel HE
 go_enter Tryz.func89, Tryz.ntmps89
 go_wp2_with fail
 refine HT.out.mono ?_
 clear HT hW1
 rintro e w2 ⟨rfl, hm⟩
 replace HM := Lib.hid (HM.out.trans hm)
 replace HB := Lib.hid (Bx.grown HB.out hm.1 (by omega))
 replace HL := Lib.hid (Bx.grown HL.out hm.1 (by omega))
 have hs2 := hm.1.size
 clear hm
 go_wp2_with fail
 refine (HX.out _ HM.out.2).mono ?_
 clear HX
 rintro e w3 ⟨y, rfl, hk, hm⟩
 replace HM := Lib.hid (HM.out.trans hm)
 replace HB := Lib.hid (Bx.grown HB.out hm.1 (by omega))
 replace HL := Lib.hid (Bx.grown HL.out hm.1 (by omega))
 have hs3 := hm.1.size
 have HK := Lib.hid (hk.mono (show w.heap.size + 2 ≤ _ by omega))
 obtain ⟨k, m, tx, nm', ty', A, cap, l, rfl, _, _, _⟩ := hk
 clear hm
 obtain ⟨W4, hW4⟩ : ∃ W, (w3.alloc (.cells #[.int .i64 k, .int .i32 m, .string tx, .string nm', .string ty', .slice A l.length cap, .string ⟨#[]⟩, .int .i64 0] 36)) = W := ⟨_, rfl⟩
 have hb : Below w3.heap.size w3 W4 := by rw [← hW4]; exact (Below.refl _ _).alloc (Nat.le_refl _) _
 have HY : Hid (OwnE (w.heap.size + 2) W4 (.slice (some ⟨w3.heap.size, 0, none⟩) 1 1) [.ex k m tx nm' ty' (.slice A l.length cap) l ⟨#[]⟩ 0]) := Lib.hid (by have := OwnE.one HK.out (show w.heap.size + 2 ≤ w3.heap.size by omega); simp only [cellsN] at this; rw [hW4] at this; exact this)
 have HQ := Lib.hid (bare_one (ExK.nk HK.out).2.2)
 replace HM := Lib.hid (HM.out.trans (Mv.below hb HM.out.2))
 replace HB := Lib.hid (HB.out.next hb)
 replace HL := Lib.hid (HL.out.next hb)
 have hs4 := hb.size
 obtain ⟨x0, x1, x2, x3⟩ := HL.out.all_4
 have gx3 := HL.out.fro 3
 obtain ⟨W5, hW5⟩ : ∃ W, W4.setCell ⟨w.heap.size, 3, none⟩ (.slice (some ⟨w3.heap.size, 0, none⟩) 1 1) = W := ⟨_, rfl⟩
 have hg : W4.grownBy W5 (some w.heap.size) := by rw [← hW5]; exact grown_set_at _ _ _ _
 have hl2 : Bx W5 w.heap.size #[.bool st, .string ty, .string nm, .slice (some ⟨w3.heap.size, 0, none⟩) 1 1] 61 := by
   rw [← hW5]
   have := HL.out.set 3 (.slice (some ⟨w3.heap.size, 0, none⟩) 1 1)
   simpa using this
 replace HM := Lib.hid (Mv.over (Below.refl _ _) HM.out hg (Nat.le_refl _) hlt)
 replace HB := Lib.hid (Bx.grown HB.out hg (by omega))
 have HF := Lib.hid (HY.out.own.fk.grown hg (by omega))
 replace HL := Lib.hid hl2
 have hs5 := hg.size
 clear hl2 hg hb HY
 simp only [cellsN]
 go_wp2_with fail
 refine (HN.out _ HM.out.2).mono ?_
 clear HN hW4 hW5 x0 x1 x2 x3 gx3
 rintro e w6 ⟨rfl, hm⟩
 replace HM := Lib.hid (HM.out.trans hm)
 replace HB := Lib.hid (Bx.grown HB.out hm.1 (by omega))
 replace HL := Lib.hid (Bx.grown HL.out hm.1 (by omega))
 have hs6 := hm.1.size
 replace HF := Lib.hid (HF.out.grown hm.1 (by omega))
 clear hm
 obtain ⟨y0, y1, y2, y3⟩ := HL.out.all_4
 obtain ⟨r0, r1, r2, r3⟩ := HB.out.all_4
 have g0 := HB.out.fro 0; have g1 := HB.out.fro 1; have g2 := HB.out.fro 2; have g3 := HB.out.fro 3
 have HG := Lib.hid (grown_4 w6 (w.heap.size + 1) (.bool st) (.string ty) (.string nm) (.slice (some ⟨w3.heap.size, 0, none⟩) 1 1))
 go_wp2_with fail
 obtain ⟨z0, z1, z2, z3⟩ := (HB.out.to_4 (.bool st) (.string ty) (.string nm) (.slice (some ⟨w3.heap.size, 0, none⟩) 1 1)).all_4
 (try simp only [Exit.inBlock, Exit.then])
 refine bodyPost_ret (v := .agg #[.bool st, .string ty, .string nm, .slice (some ⟨w3.heap.size, 0, none⟩) 1 1]) (by simp [results, Tryz.results89, go_sem, z0, z1, z2, z3]) rfl ?_
 rw [HRE.out]
 exact ⟨.fd st ty nm (.slice (some ⟨w3.heap.size, 0, none⟩) 1 1) [.ex k m tx nm' ty' (.slice A l.length cap) l ⟨#[]⟩ 0], rfl, ⟨_, _, _, _, _, [.ex k m tx nm' ty' (.slice A l.length cap) l ⟨#[]⟩ 0], rfl⟩, ((fd_node (B := w.heap.size + 2) ⟨hty, hnm⟩ HF.out HQ.out).grown HG.out (.inl (by omega))).mono (by omega), Mv.over (Below.refl _ _) HM.out HG.out (by omega) hlt⟩
theorem field_any (HE : ExAny) (W0 w : World) (c : Nat) (s : RS) (st : Bool) (ty nm : ByteArray) (hty : ty.size ≤ maxLen) (hnm : nm.size ≤ maxLen) (hv : Vars W0) (h : Rd W0 c s w) : Calls Tryz.prog 89 #[.pointer (some ⟨c, 0, none⟩), .agg #[.bool st, .string ty, .string nm, .slice none 0 0]] w (FdC W0 c w (fldM st ty nm s)) := by
 cases hel : s.sees 0 sEq with
 | false => exact field_0 HE W0 w c s st ty nm hty hnm hv h hel
 | true => exact field_1 HE W0 w c s st ty nm hty hnm hv h hel
theorem as_cl2 (l : List Pl) (k : Nat) : ∀ w, (Instr.typeAssert (aheadV l k) 79 135 true).run Tryz.prog w = .ok (.tuple #[.string ((clP l[k]?).getD ⟨#[]⟩), .bool (clP l[k]?).isSome]) w := by
 cases hx : l[k]? with
 | none => exact fun w => by simp only [aheadV, hx, clP]; exact is_no_cl w
 | some x =>
   obtain ⟨q, a⟩ := x
   cases q with
   | fx t => exact fun w => by simp only [aheadV, hx, clP, Pr.V]; exact is_fx_cl _ w
   | nm t => exact fun w => by simp only [aheadV, hx, clP, Pr.V]; exact is_nm_cl _ w
   | cl t => exact fun w => by simp only [aheadV, hx, clP, Pr.V]; exact is_cl_cl _ w
   | nu t => exact fun w => by simp only [aheadV, hx, clP, Pr.V]; exact is_nu_cl _ w
   | qu t => exact fun w => by simp only [aheadV, hx, clP, Pr.V]; exact is_qu_cl _ w
theorem starts_none (W0 w : World) (c : Nat) (s : RS) (own : ByteArray) (h : Rd W0 c s w) (h0 : clP s.ws[0]? = none) : Calls Tryz.prog 84 #[.pointer (some ⟨c, 0, none⟩), .string own] w fun e w' => e = .returned (.bool (s.ctorB own)) ∧ w = w' := by
 have HE := Lib.hid (show s.ctorB own = false by simp [RS.ctorB, h0])
 have hasf := as_cl2 s.ws 0
 rw [h0] at hasf
 simp only [Option.getD_none, Option.isSome_none] at hasf
 have HA := Lib.hid (ahead_any W0 w c 0 s h (by omega))
 obtain ⟨u0, hu0⟩ : ∃ u, aheadV s.ws 0 = u := ⟨_, rfl⟩
 rw [hu0] at hasf HA
 clear h h0 hu0
 go_enter Tryz.func84, Tryz.ntmps84
 go_wp2_with fail
 refine HA.out.mono ?_
 clear HA
 rintro e w1 ⟨rfl, rfl⟩
 go_wp2_with fail
 go_ret
 exact ⟨ret_b HE.out, rfl⟩
theorem starts_ne (W0 w : World) (c : Nat) (s : RS) (own : ByteArray) (h : Rd W0 c s w) (t : ByteArray) (h0 : clP s.ws[0]? = some t) (h1 : (t.toList == own.toList) = false) : Calls Tryz.prog 84 #[.pointer (some ⟨c, 0, none⟩), .string own] w fun e w' => e = .returned (.bool (s.ctorB own)) ∧ w = w' := by
 have HE := Lib.hid (show s.ctorB own = false by simp [RS.ctorB, h0, h1])
 have hasf := as_cl2 s.ws 0
 rw [h0] at hasf
 simp only [Option.getD_some, Option.isSome_some] at hasf
 have HA := Lib.hid (ahead_any W0 w c 0 s h (by omega))
 obtain ⟨u0, hu0⟩ : ∃ u, aheadV s.ws 0 = u := ⟨_, rfl⟩
 rw [hu0] at hasf HA
 clear h h0 hu0
 go_enter Tryz.func84, Tryz.ntmps84
 go_wp2_with fail
 refine HA.out.mono ?_
 clear HA
 rintro e w1 ⟨rfl, rfl⟩
 go_wp2_with fail
 go_ret
 exact ⟨ret_b HE.out, rfl⟩
theorem starts_no (W0 w : World) (c : Nat) (s : RS) (own : ByteArray) (h : Rd W0 c s w) (t : ByteArray) (h0 : clP s.ws[0]? = some t) (h1 : (t.toList == own.toList) = true) (h2 : s.sees 1 sOpen = false) : Calls Tryz.prog 84 #[.pointer (some ⟨c, 0, none⟩), .string own] w fun e w' => e = .returned (.bool (s.ctorB own)) ∧ w = w' := by
 have HE := Lib.hid (show s.ctorB own = false by simp [RS.ctorB, h0, h1, h2])
 have hasf := as_cl2 s.ws 0
 rw [h0] at hasf
 simp only [Option.getD_some, Option.isSome_some] at hasf
 have HA := Lib.hid (ahead_any W0 w c 0 s h (by omega))
 obtain ⟨u0, hu0⟩ : ∃ u, aheadV s.ws 0 = u := ⟨_, rfl⟩
 rw [hu0] at hasf HA
 have T8 := Lib.hid (show Calls Tryz.prog 116 #[.pointer (some ⟨c, 0, none⟩), .int .i64 1, .string sOpen] w (fun e w' => e = .returned (.bool false) ∧ w = w') from by have := seesAt_any W0 w c 1 s sOpen h (by omega); rw [h2] at this; exact this)
 clear h h0 hu0 h2
 go_enter Tryz.func84, Tryz.ntmps84
 go_wp2_with fail
 refine HA.out.mono ?_
 clear HA
 rintro e w1 ⟨rfl, rfl⟩
 go_wp2_with fail
 refine T8.out.mono ?_
 clear T8
 rintro e w2 ⟨rfl, rfl⟩
 go_wp2_with fail
 go_ret
 exact ⟨ret_b HE.out, rfl⟩
theorem starts_yes (W0 w : World) (c : Nat) (s : RS) (own : ByteArray) (h : Rd W0 c s w) (t : ByteArray) (h0 : clP s.ws[0]? = some t) (h1 : (t.toList == own.toList) = true) (h2 : s.sees 1 sOpen = true) : Calls Tryz.prog 84 #[.pointer (some ⟨c, 0, none⟩), .string own] w fun e w' => e = .returned (.bool (s.ctorB own)) ∧ w = w' := by
 have HE := Lib.hid (show s.ctorB own = true by simp [RS.ctorB, h0, h1, h2])
 have hasf := as_cl2 s.ws 0
 rw [h0] at hasf
 simp only [Option.getD_some, Option.isSome_some] at hasf
 have HA := Lib.hid (ahead_any W0 w c 0 s h (by omega))
 obtain ⟨u0, hu0⟩ : ∃ u, aheadV s.ws 0 = u := ⟨_, rfl⟩
 rw [hu0] at hasf HA
 have T8 := Lib.hid (show Calls Tryz.prog 116 #[.pointer (some ⟨c, 0, none⟩), .int .i64 1, .string sOpen] w (fun e w' => e = .returned (.bool true) ∧ w = w') from by have := seesAt_any W0 w c 1 s sOpen h (by omega); rw [h2] at this; exact this)
 clear h h0 hu0 h2
 go_enter Tryz.func84, Tryz.ntmps84
 go_wp2_with fail
 refine HA.out.mono ?_
 clear HA
 rintro e w1 ⟨rfl, rfl⟩
 go_wp2_with fail
 refine T8.out.mono ?_
 clear T8
 rintro e w2 ⟨rfl, rfl⟩
 go_wp2_with fail
 go_ret
 exact ⟨ret_b HE.out, rfl⟩
theorem starts_any (W0 w : World) (c : Nat) (s : RS) (own : ByteArray) (h : Rd W0 c s w) : Calls Tryz.prog 84 #[.pointer (some ⟨c, 0, none⟩), .string own] w fun e w' => e = .returned (.bool (s.ctorB own)) ∧ w = w' := by
 cases h0 : clP s.ws[0]? with
 | none => exact starts_none W0 w c s own h h0
 | some t =>
   cases h1 : (t.toList == own.toList) with
   | false => exact starts_ne W0 w c s own h t h0 h1
   | true =>
     cases h2 : s.sees 1 sOpen with
     | false => exact starts_no W0 w c s own h t h0 h1 h2
     | true => exact starts_yes W0 w c s own h t h0 h1 h2
end
section
open Go.RowKit
def orF (a b c d : Int) : Int × Int := if a = 0 ∧ b = 0 then (c, d) else (a, b)
theorem or_end {w wr : World} {n : Nat} {T : TypeId} {x0 x1 : Value} (h : Bx wr n #[x0, x1] T) (hb : Below n w wr) (p q : Value) (O : Obj) :
   (((wr.setCell ⟨n, 0, none⟩ p).setCell ⟨n, 1, none⟩ q).alloc O).cell? ⟨n, 0, none⟩ = some p ∧ (((wr.setCell ⟨n, 0, none⟩ p).setCell ⟨n, 1, none⟩ q).alloc O).cell? ⟨n, 1, none⟩ = some q ∧ Below n w (((wr.setCell ⟨n, 0, none⟩ p).setCell ⟨n, 1, none⟩ q).alloc O) := by
 have h2 := h.to_2 p q
 have h3 := h2.next ((Below.refl _ _).alloc (Nat.le_refl _) O)
 exact ⟨h3.all_2.1, h3.all_2.2, ((hb.setCell (Nat.le_refl _) _).setCell (Nat.le_refl _) _).alloc (Nat.le_trans (Nat.le_of_lt h2.lt) (Nat.le_refl _)) O⟩
theorem or_end' {w wr : World} {n : Nat} {T : TypeId} {x0 x1 : Value} (h : Bx wr n #[x0, x1] T) (hb : Below n w wr) (p q : Value) :
   ((wr.setCell ⟨n, 0, none⟩ p).setCell ⟨n, 1, none⟩ q).cell? ⟨n, 0, none⟩ = some p ∧ ((wr.setCell ⟨n, 0, none⟩ p).setCell ⟨n, 1, none⟩ q).cell? ⟨n, 1, none⟩ = some q ∧ Below n w ((wr.setCell ⟨n, 0, none⟩ p).setCell ⟨n, 1, none⟩ q) := by
 have h2 := h.to_2 p q
 exact ⟨h2.all_2.1, h2.all_2.2, (hb.setCell (Nat.le_refl _) _).setCell (Nat.le_refl _) _⟩
theorem or_any (w : World) (g : Nat) (a b c d : Int) (x y : Int) (hr : orF a b c d = (x, y)) (k0 : w.cell? ⟨g, 0, none⟩ = some (.int .i64 a)) (k1 : w.cell? ⟨g, 1, none⟩ = some (.int .i64 b)) (k2 : w.cell? ⟨g, 2, none⟩ = some (.int .i64 c)) (k3 : w.cell? ⟨g, 3, none⟩ = some (.int .i64 d)) :
   Calls Tryz.prog 14 #[.slice (some ⟨g, 0, none⟩) 2 2] w fun e w' => e = .returned (.agg #[.int .i64 x, .int .i64 y]) ∧ Below w.heap.size w w' := by
 have hlt := World.block_lt_of_cell? w (a := ⟨g, 0, none⟩) k0
 simp only at hlt
 obtain ⟨Wa, ha⟩ : ∃ W, w.alloc (.cells #[.int .i64 0, .int .i64 0] 53) = W := ⟨_, rfl⟩
 have ka : Below w.heap.size w Wa := by rw [← ha]; exact (Below.refl _ _).alloc (Nat.le_refl _) _
 have xa : Bx Wa w.heap.size #[.int .i64 0, .int .i64 0] 53 := by rw [← ha]; exact Bx.new _ _ _
 have sa : Wa.heap.size = w.heap.size + 1 := by rw [← ha]; simp
 obtain ⟨Wb, hb⟩ : ∃ W, Wa.alloc (.cells #[.int .i64 0, .int .i64 0] 53) = W := ⟨_, rfl⟩
 have kb : Below Wa.heap.size Wa Wb := by rw [← hb]; exact (Below.refl _ _).alloc (Nat.le_refl _) _
 have xb : Bx Wb (w.heap.size + 1) #[.int .i64 0, .int .i64 0] 53 := by rw [← hb, ← sa]; exact Bx.new _ _ _
 have HB0 : Hid (Below w.heap.size w Wb) := Lib.hid (ka.trans (kb.mono ka.size))
 have HXA := Lib.hid (xa.next kb)
 have HXB := Lib.hid xb
 have HK : Hid (∀ (o : Nat) (u : Value), w.cell? ⟨g, o, none⟩ = some u → Wb.cell? ⟨g, o, none⟩ = some u) := Lib.hid fun o u hu => Keep.below HB0.out _ _ hu
 have sb : Wb.heap.size = w.heap.size + 2 := by rw [← hb]; simp [sa]
 clear ka kb xa xb
 have q0 := HK.out 0 _ k0; have q1 := HK.out 1 _ k1; have q2 := HK.out 2 _ k2; have q3 := HK.out 3 _ k3
 have hgb : g < Wb.heap.size := by omega
 have z0 := HXB.out.cell 0; have z1 := HXB.out.cell 1
 simp only [List.getElem?_toArray, List.getElem?_cons_succ, List.getElem?_cons_zero] at z0 z1
 have HR := Lib.hid hr
 clear hr
 subst ha hb
 go_enter Tryz.func14, Tryz.ntmps14
 go_wp2_with fail
 go_loopw [8] (fun v8 wr => ∃ i : Nat, v8 = .int .i64 i ∧ i ≤ 2 ∧ Below (w.heap.size + 2) ((w.alloc (.cells #[.int .i64 0, .int .i64 0] 53)).alloc (.cells #[.int .i64 0, .int .i64 0] 53)) wr ∧ (1 ≤ i → a = 0 ∧ b = 0) ∧ (i = 2 → c = 0 ∧ d = 0)) (fun v8 wr => 2 - (intOf v8).toNat)
 case atStart => exact ⟨0, rfl, by omega, Below.refl _ _, by omega, by omega⟩
 case round =>
   obtain ⟨i, rfl, hi, hbr, hA, hC⟩ := hrel
   have hKr : ∀ (k o : Nat) (u : Value), k < w.heap.size + 2 → ((w.alloc (.cells #[.int .i64 0, .int .i64 0] 53)).alloc (.cells #[.int .i64 0, .int .i64 0] 53)).cell? ⟨k, o, none⟩ = some u → wr.cell? ⟨k, o, none⟩ = some u := by
     intro k o u hk hu
     exact (World.cell?_of_block (a := ⟨k, o, none⟩) (hbr.block k hk)).trans hu
   have y0 := hKr _ _ _ (by omega) q0; have y1 := hKr _ _ _ (by omega) q1; have y2 := hKr _ _ _ (by omega) q2; have y3 := hKr _ _ _ (by omega) q3
   have x0 := hKr _ _ _ (by omega) z0; have x1 := hKr _ _ _ (by omega) z1
   have hrb : Bx wr w.heap.size #[.int .i64 0, .int .i64 0] 53 := (hbr.block _ (by omega)).trans HXA.out
   have f0 := hrb.fro 0; have f1 := hrb.fro 1; have r0 := hrb.cell 0; have r1 := hrb.cell 1
   simp only [List.getElem?_toArray, List.getElem?_cons_succ, List.getElem?_cons_zero] at r0 r1
   have hsz := hbr.size
   simp only [sb] at hsz
   have hsr : w.heap.size < wr.heap.size := by omega
   have hsr2 : w.heap.size + 1 < wr.heap.size := by omega
   have hgr : g < wr.heap.size := by omega
   have HBS := Lib.hid hbr
   have HBR := Lib.hid (HB0.out.trans (hbr.mono (by omega)))
   have HRB := Lib.hid hrb
   clear hKr hrb q0 q1 q2 q3 z0 z1 k0 k1 k2 k3 hbr hsz
   have hii : i = 0 ∨ i = 1 ∨ i = 2 := by omega
   rcases hii with rfl | rfl | rfl
   · by_cases ha0 : a = 0
     · by_cases hb0 : b = 0
       · subst ha0 hb0
         go_wp2_with fail
         exact ⟨⟨1, rfl, by omega, HBS.out.alloc (by omega) _, by simp, by omega⟩, by simp [intOf]⟩
       · subst ha0
         have hb' : (b == 0) = false := by simpa using hb0
         have hxy0 : (0 : Int) = x ∧ b = y := by have := HR.out; simpa [orF, hb0] using this
         obtain ⟨hx0, rfl⟩ := hxy0
         subst hx0
         go_wp2_with fail
         obtain ⟨e0, e1, e2⟩ := or_end HRB.out HBR.out (.int .i64 0) (.int .i64 b) (.cells #[.int .i64 0, .int .i64 b] 53)
         (try simp only [Exit.inBlock, Exit.then])
         exact bodyPost_ret (v := .agg #[.int .i64 0, .int .i64 b]) (by simp [results, Tryz.results14, go_sem, e0, e1]) rfl ⟨rfl, e2⟩
     · have ha' : (a == 0) = false := by simpa using ha0
       have hxy0 : a = x ∧ b = y := by have := HR.out; simpa [orF, ha0] using this
       obtain ⟨rfl, rfl⟩ := hxy0
       go_wp2_with fail
       obtain ⟨e0, e1, e2⟩ := or_end HRB.out HBR.out (.int .i64 a) (.int .i64 b) (.cells #[.int .i64 a, .int .i64 b] 53)
       (try simp only [Exit.inBlock, Exit.then])
       exact bodyPost_ret (v := .agg #[.int .i64 a, .int .i64 b]) (by simp [results, Tryz.results14, go_sem, e0, e1]) rfl ⟨rfl, e2⟩
   · obtain ⟨rfl, rfl⟩ := hA (by omega)
     have hxy0 : c = x ∧ d = y := by have := HR.out; simpa [orF] using this
     obtain ⟨rfl, rfl⟩ := hxy0
     by_cases hc0 : c = 0
     · by_cases hd0 : d = 0
       · subst hc0 hd0
         go_wp2_with fail
         exact ⟨⟨2, rfl, by omega, HBS.out.alloc (by omega) _, by simp, by simp⟩, by simp [intOf]⟩
       · subst hc0
         have hb' : (d == 0) = false := by simpa using hd0
         go_wp2_with fail
         obtain ⟨e0, e1, e2⟩ := or_end HRB.out HBR.out (.int .i64 0) (.int .i64 d) (.cells #[.int .i64 0, .int .i64 d] 53)
         (try simp only [Exit.inBlock, Exit.then])
         exact bodyPost_ret (v := .agg #[.int .i64 0, .int .i64 d]) (by simp [results, Tryz.results14, go_sem, e0, e1]) rfl ⟨rfl, e2⟩
     · have ha' : (c == 0) = false := by simpa using hc0
       go_wp2_with fail
       obtain ⟨e0, e1, e2⟩ := or_end HRB.out HBR.out (.int .i64 c) (.int .i64 d) (.cells #[.int .i64 c, .int .i64 d] 53)
       (try simp only [Exit.inBlock, Exit.then])
       exact bodyPost_ret (v := .agg #[.int .i64 c, .int .i64 d]) (by simp [results, Tryz.results14, go_sem, e0, e1]) rfl ⟨rfl, e2⟩
   · obtain ⟨rfl, rfl⟩ := hA (by omega)
     obtain ⟨rfl, rfl⟩ := hC rfl
     have hxy0 : (0 : Int) = x ∧ (0 : Int) = y := by have := HR.out; simpa [orF] using this
     obtain ⟨rfl, rfl⟩ := hxy0
     go_wp2_with fail
     obtain ⟨e0, e1, e2⟩ := or_end' HRB.out HBR.out (.int .i64 0) (.int .i64 0)
     (try simp only [Exit.inBlock, Exit.then])
     exact bodyPost_ret (v := .agg #[.int .i64 0, .int .i64 0]) (by simp [results, Tryz.results14, go_sem, e0, e1]) rfl ⟨rfl, e2⟩
end
end Go.Proofs.YtnbfajmdfkgebaaGreatDoor
