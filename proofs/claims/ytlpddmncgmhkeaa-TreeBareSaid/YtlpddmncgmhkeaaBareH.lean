/- Contracts of tree.strip at expressions, statements, methods. -/
import Derived.Test.YtlpddmncgmhkeaaBareG
import Derived.Test.YtlpddmncgmhkeaaBareE
set_option linter.unusedSimpArgs false
set_option linter.unusedVariables false
namespace Go.Proofs.Ytlpddmncgmhkeaa
open Go.RowKit
set_option maxRecDepth 100000 in
set_option maxHeartbeats 4000000 in
theorem strip_ex (w : World) (b o : Nat) (k n : Int) (tx nm ty : ByteArray) (v : Value) (l : List Nd) (own : ByteArray) (nth : Int) (hr : Raw w ⟨b, o, .ex k n tx nm ty v l own nth⟩) (hkd : Kd w (.ex k n tx nm ty v l own nth)) (hsm : Sm (.ex k n tx nm ty v l own nth)) (hm : l.length ≤ 1000000) :
    Calls Try.prog 24 #[.iface 67 (.pointer (some ⟨b, o, none⟩))] w (StripSaid w b o (.ex k n tx nm ty v l own nth)) := by
  have hk := hkd; rw [Kd] at hk
  have hs := hsm.head
  have HB := Lib.hid (bareExpr_any w k n tx nm ty v l own nth hs.1 hs.2.1 hs.2.2 hk.2.1 hk.2.2 hm)
  have HR := Lib.hid hr
  have HZ := Lib.hid hk.1
  have HT := Lib.hid hk.2.1
  have hlt : b < w.heap.size := hr.lt
  have c0 : w.cell? ⟨b, o, none⟩ = some (.int .i64 k) := by simpa using (hr 0 _ rfl).1
  have c1 : w.cell? ⟨b, o + 1, none⟩ = some (.int .i32 n) := (hr 1 _ rfl).1
  have c2 : w.cell? ⟨b, o + 2, none⟩ = some (.string tx) := (hr 2 _ rfl).1
  have c3 : w.cell? ⟨b, o + 3, none⟩ = some (.string nm) := (hr 3 _ rfl).1
  have c4 : w.cell? ⟨b, o + 4, none⟩ = some (.string ty) := (hr 4 _ rfl).1
  have c5 : w.cell? ⟨b, o + 5, none⟩ = some v := (hr 5 _ rfl).1
  have c6 : w.cell? ⟨b, o + 6, none⟩ = some (.string own) := (hr 6 _ rfl).1
  have c7 : w.cell? ⟨b, o + 7, none⟩ = some (.int .i64 nth) := (hr 7 _ rfl).1
  have hfr : ∀ j, j < 8 → w.frozen? ⟨b, o + j, none⟩ = false := by
    intro j hj
    have hjl : j < (cellsN (.ex k n tx nm ty v l own nth)).length := by rw [cells_len]; exact hj
    exact (hr j _ (List.getElem?_eq_getElem hjl)).2
  have HFR := Lib.hid hfr
  clear hk hs hkd hsm hr hfr
  go_enter Try.func24, Try.ntmps24
  go_wp2_with fail
  refine HB.out.mono ?_
  clear HB
  rintro e w1 ⟨v', rfl, ho, hb⟩
  obtain ⟨A, cap, rfl, _⟩ := own_form ho
  have d0 := (Keep.below hb) _ _ c0; have d1 := (Keep.below hb) _ _ c1; have d2 := (Keep.below hb) _ _ c2; have d3 := (Keep.below hb) _ _ c3
  have d4 := (Keep.below hb) _ _ c4; have d5 := (Keep.below hb) _ _ c5; have d6 := (Keep.below hb) _ _ c6; have d7 := (Keep.below hb) _ _ c7
  have g0 : w1.frozen? ⟨b, o, none⟩ = false := (hb.frozen (p := ⟨b, o, none⟩) hlt).trans (HFR.out 0 (by omega))
  have g1 := (hb.frozen (p := ⟨b, o + 1, none⟩) hlt).trans (HFR.out 1 (by omega)); have g2 := (hb.frozen (p := ⟨b, o + 2, none⟩) hlt).trans (HFR.out 2 (by omega)); have g3 := (hb.frozen (p := ⟨b, o + 3, none⟩) hlt).trans (HFR.out 3 (by omega))
  have g4 := (hb.frozen (p := ⟨b, o + 4, none⟩) hlt).trans (HFR.out 4 (by omega)); have g5 := (hb.frozen (p := ⟨b, o + 5, none⟩) hlt).trans (HFR.out 5 (by omega)); have g6 := (hb.frozen (p := ⟨b, o + 6, none⟩) hlt).trans (HFR.out 6 (by omega)); have g7 := (hb.frozen (p := ⟨b, o + 7, none⟩) hlt).trans (HFR.out 7 (by omega))
  have HFIN := Lib.hid (strip_said (o := o) (x := .ex k n tx nm ty v l own nth) (x' := .ex k n tx nm ty (.slice A l.length cap) l ⟨#[]⟩ 0) hb HR.out rfl (ok_ex (seg_of (t := .ex) (own_setCells _ o ho hlt) (by obtain ⟨_, _, _, _, ht, _⟩ := HT.out; exact ht)) hm HZ.out))
  clear ho hb c0 c1 c2 c3 c4 c5 c6 c7
  go_wp2_with fail
  refine bodyPost_end (v := .tuple #[]) (by simp [results, Try.results24, go_sem]) rfl ?_
  exact HFIN.out
end Go.Proofs.Ytlpddmncgmhkeaa
/- Contracts of tree.strip at statements and methods. Written by wip/tools/gen_bare_i.py. -/
set_option linter.unusedSimpArgs false
set_option linter.unusedVariables false
namespace Go.Proofs.Ytlpddmncgmhkeaa
open Go.RowKit
set_option maxRecDepth 100000 in
set_option maxHeartbeats 4000000 in
theorem strip_st (w : World) (b o : Nat) (k n : Int) (ty nm : ByteArray) (ve va vb vc : Value) (le la lb lc : List Nd) (nth : Int) (hr : Raw w ⟨b, o, .st k n ty nm ve va vb vc le la lb lc nth⟩) (hkd : Kd w (.st k n ty nm ve va vb vc le la lb lc nth)) (hsm : Sm (.st k n ty nm ve va vb vc le la lb lc nth)) (m1 : le.length ≤ 1000000) (m2 : la.length ≤ 1000000) (m3 : lb.length ≤ 1000000) (m4 : lc.length ≤ 1000000) :
    Calls Try.prog 24 #[.iface 75 (.pointer (some ⟨b, o, none⟩))] w (StripSaid w b o (.st k n ty nm ve va vb vc le la lb lc nth)) := by
  have hk := hkd; rw [Kd] at hk
  have hs := hsm.head
  have HB := Lib.hid (bareStmt_any w k n ty nm ve va vb vc le la lb lc nth hs.1 hs.2 hk.2.1.1 hk.2.1.2 m1 hk.2.2.1.1 hk.2.2.1.2 m2 hk.2.2.2.1.1 hk.2.2.2.1.2 m3 hk.2.2.2.2.1 hk.2.2.2.2.2 m4)
  have HR := Lib.hid hr
  have HKK := Lib.hid hk
  have hlt : b < w.heap.size := hr.lt
  have c0 : w.cell? ⟨b, o, none⟩ = some (.int .i64 k) := by simpa using (hr 0 _ rfl).1
  have c1 : w.cell? ⟨b, o + 1, none⟩ = some (.int .i32 n) := by simpa using (hr 1 _ rfl).1
  have c2 : w.cell? ⟨b, o + 2, none⟩ = some (.string ty) := by simpa using (hr 2 _ rfl).1
  have c3 : w.cell? ⟨b, o + 3, none⟩ = some (.string nm) := by simpa using (hr 3 _ rfl).1
  have c4 : w.cell? ⟨b, o + 4, none⟩ = some (ve) := by simpa using (hr 4 _ rfl).1
  have c5 : w.cell? ⟨b, o + 5, none⟩ = some (va) := by simpa using (hr 5 _ rfl).1
  have c6 : w.cell? ⟨b, o + 6, none⟩ = some (vb) := by simpa using (hr 6 _ rfl).1
  have c7 : w.cell? ⟨b, o + 7, none⟩ = some (vc) := by simpa using (hr 7 _ rfl).1
  have c8 : w.cell? ⟨b, o + 8, none⟩ = some (.int .i64 nth) := by simpa using (hr 8 _ rfl).1
  have hfr : ∀ j, j < 9 → w.frozen? ⟨b, o + j, none⟩ = false := by
    intro j hj
    have hjl : j < (cellsN (.st k n ty nm ve va vb vc le la lb lc nth)).length := by rw [cells_len]; exact hj
    exact (hr j _ (List.getElem?_eq_getElem hjl)).2
  have HFR := Lib.hid hfr
  clear hk hs hkd hsm hr hfr
  go_enter Try.func24, Try.ntmps24
  go_wp2_with fail
  refine HB.out.mono ?_
  clear HB
  rintro e w1 ⟨v1, v2, v3, v4, rfl, ⟨B1, B2, B3, q1, q2, q3, o1, l1, o2, l2, o3, l3, o4⟩, hb⟩
  obtain ⟨Ae, ce, rfl, _⟩ := own_form o1
  obtain ⟨Aa, ca, rfl, _⟩ := own_form o2
  obtain ⟨Ab, cb, rfl, _⟩ := own_form o3
  obtain ⟨Ac, cc, rfl, _⟩ := own_form o4
  have d0 := (Keep.below hb) _ _ c0
  have d1 := (Keep.below hb) _ _ c1
  have d2 := (Keep.below hb) _ _ c2
  have d3 := (Keep.below hb) _ _ c3
  have d4 := (Keep.below hb) _ _ c4
  have d5 := (Keep.below hb) _ _ c5
  have d6 := (Keep.below hb) _ _ c6
  have d7 := (Keep.below hb) _ _ c7
  have d8 := (Keep.below hb) _ _ c8
  have g0 : w1.frozen? ⟨b, o, none⟩ = false := (hb.frozen (p := ⟨b, o, none⟩) hlt).trans (HFR.out 0 (by omega))
  have g1 : w1.frozen? ⟨b, o + 1, none⟩ = false := (hb.frozen (p := ⟨b, o + 1, none⟩) hlt).trans (HFR.out 1 (by omega))
  have g2 : w1.frozen? ⟨b, o + 2, none⟩ = false := (hb.frozen (p := ⟨b, o + 2, none⟩) hlt).trans (HFR.out 2 (by omega))
  have g3 : w1.frozen? ⟨b, o + 3, none⟩ = false := (hb.frozen (p := ⟨b, o + 3, none⟩) hlt).trans (HFR.out 3 (by omega))
  have g4 : w1.frozen? ⟨b, o + 4, none⟩ = false := (hb.frozen (p := ⟨b, o + 4, none⟩) hlt).trans (HFR.out 4 (by omega))
  have g5 : w1.frozen? ⟨b, o + 5, none⟩ = false := (hb.frozen (p := ⟨b, o + 5, none⟩) hlt).trans (HFR.out 5 (by omega))
  have g6 : w1.frozen? ⟨b, o + 6, none⟩ = false := (hb.frozen (p := ⟨b, o + 6, none⟩) hlt).trans (HFR.out 6 (by omega))
  have g7 : w1.frozen? ⟨b, o + 7, none⟩ = false := (hb.frozen (p := ⟨b, o + 7, none⟩) hlt).trans (HFR.out 7 (by omega))
  have g8 : w1.frozen? ⟨b, o + 8, none⟩ = false := (hb.frozen (p := ⟨b, o + 8, none⟩) hlt).trans (HFR.out 8 (by omega))
  have HFIN := Lib.hid (strip_said (o := o) (x := .st k n ty nm ve va vb vc le la lb lc nth) (x' := .st k n ty nm (.slice Ae le.length ce) (.slice Aa la.length ca) (.slice Ab lb.length cb) (.slice Ac lc.length cc) le la lb lc 0) hb HR.out rfl
    (ok_st (seg_of (t := .ex) (own_setCells _ o o1 hlt) (by obtain ⟨_, _, _, _, ht, _⟩ := HKK.out.2.1.1; exact ht)) (seg_of (t := .st) (own_setCells _ o o2 (by omega)) (by obtain ⟨_, _, _, _, ht, _⟩ := HKK.out.2.2.1.1; exact ht)) (seg_of (t := .st) (own_setCells _ o o3 (by omega)) (by obtain ⟨_, _, _, _, ht, _⟩ := HKK.out.2.2.2.1.1; exact ht)) (seg_of (t := .st) (own_setCells _ o o4 (by omega)) (by obtain ⟨_, _, _, _, ht, _⟩ := HKK.out.2.2.2.2.1; exact ht)) q1 q2 q3 l1 l2 l3 m1 m2 m3 m4 HKK.out.1))
  clear o1 o2 o3 o4 l1 l2 l3 hb c0 c1 c2 c3 c4 c5 c6 c7 c8
  go_wp2_with fail
  refine bodyPost_end (v := .tuple #[]) (by simp [results, Try.results24, go_sem]) rfl ?_
  exact HFIN.out
set_option maxRecDepth 100000 in
set_option maxHeartbeats 4000000 in
theorem strip_mt (w : World) (b o : Nat) (s c : Bool) (ty nm : ByteArray) (vp : Value) (ps : List Prm) (v : Value) (l : List Nd) (hr : Raw w ⟨b, o, .mt s c ty nm vp ps v l⟩) (hkd : Kd w (.mt s c ty nm vp ps v l)) (hsm : Sm (.mt s c ty nm vp ps v l)) (hm : l.length ≤ 1000000) :
    Calls Try.prog 24 #[.iface 78 (.pointer (some ⟨b, o, none⟩))] w (StripSaid w b o (.mt s c ty nm vp ps v l)) := by
  have hk := hkd; rw [Kd] at hk
  have hs := hsm.head
  have HB := Lib.hid (bareMethod_any w s c ty nm vp ps v l hs.1.1 hs.1.2 hk.2.1 hs.2.1 hs.2.2 hk.2.2.1 hk.2.2.2 hm)
  have hsp := hs.2.1
  have HR := Lib.hid hr
  have HKK := Lib.hid hk
  have hlt : b < w.heap.size := hr.lt
  have c0 : w.cell? ⟨b, o, none⟩ = some (.bool s) := by simpa using (hr 0 _ rfl).1
  have c1 : w.cell? ⟨b, o + 1, none⟩ = some (.bool c) := by simpa using (hr 1 _ rfl).1
  have c2 : w.cell? ⟨b, o + 2, none⟩ = some (.string ty) := by simpa using (hr 2 _ rfl).1
  have c3 : w.cell? ⟨b, o + 3, none⟩ = some (.string nm) := by simpa using (hr 3 _ rfl).1
  have c4 : w.cell? ⟨b, o + 4, none⟩ = some (vp) := by simpa using (hr 4 _ rfl).1
  have c5 : w.cell? ⟨b, o + 5, none⟩ = some (v) := by simpa using (hr 5 _ rfl).1
  have hfr : ∀ j, j < 6 → w.frozen? ⟨b, o + j, none⟩ = false := by
    intro j hj
    have hjl : j < (cellsN (.mt s c ty nm vp ps v l)).length := by rw [cells_len]; exact hj
    exact (hr j _ (List.getElem?_eq_getElem hjl)).2
  have HFR := Lib.hid hfr
  clear hk hs hkd hsm hr hfr
  go_enter Try.func24, Try.ntmps24
  go_wp2_with fail
  refine HB.out.mono ?_
  clear HB
  rintro e w1 ⟨v1, v2, B1, rfl, q1, o1, l1, o2, hb⟩
  obtain ⟨Ap, cp, rfl, _⟩ := own_form o1
  obtain ⟨A, ca, rfl, _⟩ := own_form o2
  have d0 := (Keep.below hb) _ _ c0
  have d1 := (Keep.below hb) _ _ c1
  have d2 := (Keep.below hb) _ _ c2
  have d3 := (Keep.below hb) _ _ c3
  have d4 := (Keep.below hb) _ _ c4
  have d5 := (Keep.below hb) _ _ c5
  have g0 : w1.frozen? ⟨b, o, none⟩ = false := (hb.frozen (p := ⟨b, o, none⟩) hlt).trans (HFR.out 0 (by omega))
  have g1 : w1.frozen? ⟨b, o + 1, none⟩ = false := (hb.frozen (p := ⟨b, o + 1, none⟩) hlt).trans (HFR.out 1 (by omega))
  have g2 : w1.frozen? ⟨b, o + 2, none⟩ = false := (hb.frozen (p := ⟨b, o + 2, none⟩) hlt).trans (HFR.out 2 (by omega))
  have g3 : w1.frozen? ⟨b, o + 3, none⟩ = false := (hb.frozen (p := ⟨b, o + 3, none⟩) hlt).trans (HFR.out 3 (by omega))
  have g4 : w1.frozen? ⟨b, o + 4, none⟩ = false := (hb.frozen (p := ⟨b, o + 4, none⟩) hlt).trans (HFR.out 4 (by omega))
  have g5 : w1.frozen? ⟨b, o + 5, none⟩ = false := (hb.frozen (p := ⟨b, o + 5, none⟩) hlt).trans (HFR.out 5 (by omega))
  have HFIN := Lib.hid (strip_said (o := o) (x := .mt s c ty nm vp ps v l) (x' := .mt s c ty nm (.slice Ap ps.length cp) ps (.slice A l.length ca) l) hb HR.out rfl
    (ok_mt (own_setCells _ o o1 hlt) l1 (seg_of (t := .st) (own_setCells _ o o2 (by omega)) (by obtain ⟨_, _, _, _, ht, _⟩ := HKK.out.2.2.1; exact ht)) q1 hm hsp (by obtain ⟨_, _, _, _, hps, _⟩ := HKK.out.2.1; exact hps) HKK.out.1))
  clear o1 o2 l1 hb c0 c1 c2 c3 c4 c5
  go_wp2_with fail
  refine bodyPost_end (v := .tuple #[]) (by simp [results, Try.results24, go_sem]) rfl ?_
  exact HFIN.out
end Go.Proofs.Ytlpddmncgmhkeaa
