/- Contracts of tree.strip at expressions, statements, methods. -/
import Derived.Test.YtnphimechniplaaBareG
import Derived.Test.YtnphimechniplaaBareE
set_option linter.unusedSimpArgs false
set_option linter.unusedVariables false
namespace Go.Proofs.Ytnphimechniplaa
open Go.RowKit
set_option maxRecDepth 100000 in
set_option maxHeartbeats 4000000 in
theorem strip_ex (w : World) (b o : Nat) (k n : Int) (tx nm ty : ByteArray) (v : Value) (l : List Nd) (own : ByteArray) (nth : Int) (hr : Raw w ⟨b, o, .ex k n tx nm ty v l own nth⟩) (hkd : Kd w (.ex k n tx nm ty v l own nth)) (hsm : Sm (.ex k n tx nm ty v l own nth)) (hm : l.length ≤ 1000000) :
    Calls Try.prog 38 #[.iface 60 (.pointer (some ⟨b, o, none⟩))] w (StripSaid w b o (.ex k n tx nm ty v l own nth)) := by
  have hk := hkd; rw [Kd] at hk
  have hs := hsm.head
  have HB := Lib.hid (bareExpr_any w k n tx nm ty v l own nth hs.1 hs.2.1 hs.2.2 hk.2.1 hk.2.2 hm)
  have HR := Lib.hid hr
  have HZ := Lib.hid hk.1
  have HT := Lib.hid hk.2.1
  have hlt : b < w.heap.size := hr.lt
  have c0 : w.cell? ⟨b, o, none⟩ = some (.int .i64 k) := by simpa using (hr 0 _ rfl).1
  have c1 : w.cell? ⟨b, o + 1, none⟩ = some (.int .i32 n) := (hr 1 _ rfl).1
  have c2 : w.cell? ⟨b, o + 2, none⟩ = some (.string tx) := (hr 2 _ rfl).1
  have c3 : w.cell? ⟨b, o + 3, none⟩ = some (.string nm) := (hr 3 _ rfl).1
  have c4 : w.cell? ⟨b, o + 4, none⟩ = some (.string ty) := (hr 4 _ rfl).1
  have c5 : w.cell? ⟨b, o + 5, none⟩ = some v := (hr 5 _ rfl).1
  have c6 : w.cell? ⟨b, o + 6, none⟩ = some (.string own) := (hr 6 _ rfl).1
  have c7 : w.cell? ⟨b, o + 7, none⟩ = some (.int .i64 nth) := (hr 7 _ rfl).1
  have hfr : ∀ j, j < 8 → w.frozen? ⟨b, o + j, none⟩ = false := by
    intro j hj
    have hjl : j < (cellsN (.ex k n tx nm ty v l own nth)).length := by rw [cells_len]; exact hj
    exact (hr j _ (List.getElem?_eq_getElem hjl)).2
  have HFR := Lib.hid hfr
  clear hk hs hkd hsm hr hfr
  go_enter Try.func38, Try.ntmps38
  go_wp2_with fail
  refine HB.out.mono ?_
  clear HB
  rintro e w1 ⟨v', rfl, ho, hb⟩
  obtain ⟨A, cap, rfl, _⟩ := own_form ho
  have d0 := (Keep.below hb) _ _ c0; have d1 := (Keep.below hb) _ _ c1; have d2 := (Keep.below hb) _ _ c2; have d3 := (Keep.below hb) _ _ c3
  have d4 := (Keep.below hb) _ _ c4; have d5 := (Keep.below hb) _ _ c5; have d6 := (Keep.below hb) _ _ c6; have d7 := (Keep.below hb) _ _ c7
  have g0 : w1.frozen? ⟨b, o, none⟩ = false := (hb.frozen (p := ⟨b, o, none⟩) hlt).trans (HFR.out 0 (by omega))
  have g1 := (hb.frozen (p := ⟨b, o + 1, none⟩) hlt).trans (HFR.out 1 (by omega)); have g2 := (hb.frozen (p := ⟨b, o + 2, none⟩) hlt).trans (HFR.out 2 (by omega)); have g3 := (hb.frozen (p := ⟨b, o + 3, none⟩) hlt).trans (HFR.out 3 (by omega))
  have g4 := (hb.frozen (p := ⟨b, o + 4, none⟩) hlt).trans (HFR.out 4 (by omega)); have g5 := (hb.frozen (p := ⟨b, o + 5, none⟩) hlt).trans (HFR.out 5 (by omega)); have g6 := (hb.frozen (p := ⟨b, o + 6, none⟩) hlt).trans (HFR.out 6 (by omega)); have g7 := (hb.frozen (p := ⟨b, o + 7, none⟩) hlt).trans (HFR.out 7 (by omega))
  have HFIN := Lib.hid (strip_said (o := o) (x := .ex k n tx nm ty v l own nth) (x' := .ex k n tx nm ty (.slice A l.length cap) l ⟨#[]⟩ 0) hb HR.out rfl (ok_ex (seg_of (t := .ex) (own_setCells _ o ho hlt) (by obtain ⟨_, _, _, _, ht, _⟩ := HT.out; exact ht)) hm HZ.out))
  clear ho hb c0 c1 c2 c3 c4 c5 c6 c7
  go_wp2_with fail
  refine bodyPost_end (v := .tuple #[]) (by simp [results, Try.results38, go_sem]) rfl ?_
  exact HFIN.out
end Go.Proofs.Ytnphimechniplaa
