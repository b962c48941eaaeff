/- Contracts of tree.strip at fields and classes. Written by wip/tools/gen_bare_i.py. -/
import Derived.Test.YtlpddmncgmhkeaaBareG
import Derived.Test.YtlpddmncgmhkeaaBareE
import Derived.Deep.DeepCutAuto
set_option linter.unusedSimpArgs false
set_option linter.unusedVariables false
namespace Go.Proofs.Ytlpddmncgmhkeaa
open Go.RowKit
theorem set_at {w : World} {a : Addr} {u v : Value} (h : w.cell? a = some u) : (w.setCell a v).cell? a = some v := World.cell?_setCell_same' w a v (by rw [h]; rfl)
theorem set_same_cell {w : World} {a : Addr} {u : Value} (h : w.cell? a = some u) (p : Addr) : (w.setCell a u).cell? p = w.cell? p := by
  by_cases e : a = p
  · subst e; rw [set_at h, h]
  · exact World.cell?_setCell_other _ _ _ _ e
/-- Nothing has turned but by new blocks and by what stood there already. -/
def Still (w w' : World) (b : Nat) : Prop := w.grownBy w' (some b) ∧ (∀ j, w'.cell? ⟨b, j, none⟩ = w.cell? ⟨b, j, none⟩) ∧ ∀ j, w'.frozen? ⟨b, j, none⟩ = w.frozen? ⟨b, j, none⟩
theorem still_two {w w3 : World} {b o1 o2 : Nat} {u1 u2 : Value} (hb : Below w.heap.size w w3) (hlt : b < w.heap.size) (h1 : w.cell? ⟨b, o1, none⟩ = some u1) (h2 : w.cell? ⟨b, o2, none⟩ = some u2) : Still w ((w3.setCell ⟨b, o1, none⟩ u1).setCell ⟨b, o2, none⟩ u2) b := by
  have e1 := (hb.cell (p := ⟨b, o1, none⟩) hlt).trans h1
  have e2 : (w3.setCell ⟨b, o1, none⟩ u1).cell? ⟨b, o2, none⟩ = some u2 := by rw [set_same_cell e1]; exact (hb.cell (p := ⟨b, o2, none⟩) hlt).trans h2
  refine ⟨((grown_below hb).trans (grown_set_at _ _ _ _)).trans (grown_set_at _ _ _ _), fun j => ?_, fun j => ?_⟩
  · rw [set_same_cell e2, set_same_cell e1]; exact hb.cell (p := ⟨b, j, none⟩) hlt
  · rw [World.frozen?_setCell, World.frozen?_setCell]; exact hb.frozen (p := ⟨b, j, none⟩) hlt
theorem still_keep {w w' : World} {b : Nat} (h : Still w w' b) : Keep w w' := fun p u hu => by
  by_cases e : p.block = b
  · have hs : p.spot = none := by
      cases hp : p.spot with
      | none => rfl
      | some s => simp [World.cell?, hp] at hu; split at hu <;> simp at hu
    obtain ⟨pb, po, ps⟩ := p
    simp only at e hs; subst e; subst hs
    exact (h.2.1 po).trans hu
  · exact (World.cell?_of_block (h.1.block p.block (World.block_lt_of_cell? w p hu) (by simpa using e))).trans hu
set_option maxRecDepth 100000 in
set_option maxHeartbeats 4000000 in
theorem strip_fd (w : World) (b o : Nat) (s : Bool) (ty nm : ByteArray) (v : Value) (l : List Nd) (hr : Raw w ⟨b, o, .fd s ty nm v l⟩) (hkd : Kd w (.fd s ty nm v l)) (hsm : Sm (.fd s ty nm v l)) (hm : l.length ≤ 1000000) :
    Calls Try.prog 24 #[.iface 80 (.pointer (some ⟨b, o, none⟩))] w (StripSaid w b o (.fd s ty nm v l)) := by
  have hk := hkd; rw [Kd] at hk
  have hs := hsm.head
  have HC : Hid (∀ (s : ByteArray) (w1 : World), s.size ≤ 281474976710656 → Calls Try.prog 37 #[.string s] w1 fun e w' => e = .returned (.string s) ∧ Below w1.heap.size w1 w') := fun s w1 h => clone_any s w1 h
  have h1 := hs.1
  have h2 := hs.2
  have HR := Lib.hid hr
  have HKK := Lib.hid hk
  have hlt : b < w.heap.size := hr.lt
  have c0 : w.cell? ⟨b, o, none⟩ = some (.bool s) := by simpa using (hr 0 _ rfl).1
  have c1 : w.cell? ⟨b, o + 1, none⟩ = some (.string ty) := by simpa using (hr 1 _ rfl).1
  have c2 : w.cell? ⟨b, o + 2, none⟩ = some (.string nm) := by simpa using (hr 2 _ rfl).1
  have c3 : w.cell? ⟨b, o + 3, none⟩ = some (v) := by simpa using (hr 3 _ rfl).1
  have hfr : ∀ j, j < 4 → w.frozen? ⟨b, o + j, none⟩ = false := by
    intro j hj
    have hjl : j < (cellsN (.fd s ty nm v l)).length := by rw [cells_len]; exact hj
    exact (hr j _ (List.getElem?_eq_getElem hjl)).2
  have HFR := Lib.hid hfr
  clear hk hs hkd hsm hr hfr
  go_enter Try.func24, Try.ntmps24
  go_wp2_with fail
  have hB0 : Below w.heap.size w w.drew := (Below.refl _ w).drew
  have gA : w.frozen? ⟨b, o + 1, none⟩ = false := HFR.out 1 (by omega)
  have gB : w.frozen? ⟨b, o + 2, none⟩ = false := HFR.out 2 (by omega)
  go_cut [] (fun wx => Still w wx b)
  case first =>
    go_region_with (first
      | (go_at_call_of 37 (Value.string ty); refine (HC.out ty _ h1).mono ?_; rintro e w2 ⟨rfl, hc1⟩; have hB1 := hB0.trans (hc1.mono hB0.size); have dB := (Keep.below hB1) _ _ c2; clear hc1)
      | (go_at_call_of 37 (Value.string nm); refine (HC.out nm _ h2).mono ?_; rintro e w3 ⟨rfl, hc2⟩; have hB2 := hB1.trans (hc2.mono hB1.size); have eA := (Keep.below hB2) _ _ c1; have eB := (Keep.below hB2) _ _ c2; have fA := (hB2.frozen (p := ⟨b, o + 1, none⟩) hlt).trans gA; have fB := (hB2.frozen (p := ⟨b, o + 2, none⟩) hlt).trans gB; clear hc2))
    all_goals
      go_wp2_with fail
      go_meet
      exact still_two hB2 hlt c1 c2
  case rest =>
    have HST := Lib.hid hcut
    have d3 := (still_keep hcut) _ _ c3
    have g3 : wc.frozen? ⟨b, o + 3, none⟩ = false := (hcut.2.2 _).trans (HFR.out 3 (by omega))
    have hltc : b < wc.heap.size := Nat.lt_of_lt_of_le hlt hcut.1.size
    have HRN := Lib.hid (renewed_ex wc v l (HKK.out.2.1.keep (still_keep hcut)) (KdL.keep (still_keep hcut) _ HKK.out.2.2) hm)
    clear hcut c0 c1 c2 c3 gA gB hB0
    go_wp2_with fail
    refine HRN.out.mono ?_
    clear HRN
    rintro e w4 ⟨v4, rfl, ho, hb⟩
    obtain ⟨A, cap, rfl, _⟩ := own_form ho
    have e3 := (Keep.below hb) _ _ d3
    have f3 := (hb.frozen (p := ⟨b, o + 3, none⟩) hltc).trans g3
    have hwc := HST.out.1.size
    have HFIN : Hid (StripSaid w b o (.fd s ty nm v l) (.returned (.tuple #[])) (w4.setCell ⟨b, o + 3, none⟩ (.slice A l.length cap))) := by
      refine ⟨rfl, .fd s ty nm (.slice A l.length cap) l, ok_fd (seg_of (t := .ex) (own_mono (ownsRow_setCell_below ho hltc _) hwc) (by obtain ⟨_, _, _, _, ht, _⟩ := HKK.out.2.1; exact ht)) hm HKK.out.1, (HST.out.1.trans (grown_below hb)).trans (grown_set_at _ _ _ _), fun j u hu => ?_, fun j hj => ?_, fun j => ?_⟩
      · by_cases h3 : j = 3
        · subst h3; simp [cellsN] at hu; subst hu; exact set_at e3
        · have hu' : (cellsN (.fd s ty nm v l))[j]? = some u := by
            match j, h3, hu with
            | 0, _, hu => exact hu
            | 1, _, hu => exact hu
            | 2, _, hu => exact hu
            | j + 4, _, hu => simp [cellsN] at hu
          rw [World.cell?_setCell_other _ _ _ _ (by simp <;> omega), hb.cell (p := ⟨b, o + j, none⟩) hltc, HST.out.2.1]
          exact (HR.out j u hu').1
      · simp only [Nd.tag, Tg.sz] at hj
        rw [World.cell?_setCell_other _ _ _ _ (by simp <;> omega), hb.cell (p := ⟨b, j, none⟩) hltc, HST.out.2.1]
      · rw [World.frozen?_setCell, hb.frozen (p := ⟨b, j, none⟩) hltc, HST.out.2.2]
    clear ho hb d3 g3
    go_wp2_with fail
    refine bodyPost_end (v := .tuple #[]) (by simp [results, Try.results24, go_sem]) rfl ?_
    exact HFIN.out
set_option maxRecDepth 100000 in
set_option maxHeartbeats 4000000 in
theorem strip_cl (w : World) (b o : Nat) (nm sp : ByteArray) (vf vm : Value) (f m : List Nd) (hr : Raw w ⟨b, o, .cl nm sp vf vm f m⟩) (hkd : Kd w (.cl nm sp vf vm f m)) (hsm : Sm (.cl nm sp vf vm f m)) (m1 : f.length ≤ 1000000) (m2 : m.length ≤ 1000000) :
    Calls Try.prog 24 #[.iface 65 (.pointer (some ⟨b, o, none⟩))] w (StripSaid w b o (.cl nm sp vf vm f m)) := by
  have hk := hkd; rw [Kd] at hk
  have hs := hsm.head
  have HC : Hid (∀ (s : ByteArray) (w1 : World), s.size ≤ 281474976710656 → Calls Try.prog 37 #[.string s] w1 fun e w' => e = .returned (.string s) ∧ Below w1.heap.size w1 w') := fun s w1 h => clone_any s w1 h
  have h1 := hs.1
  have h2 := hs.2
  have HR := Lib.hid hr
  have HKK := Lib.hid hk
  have hlt : b < w.heap.size := hr.lt
  have c0 : w.cell? ⟨b, o, none⟩ = some (.string nm) := by simpa using (hr 0 _ rfl).1
  have c1 : w.cell? ⟨b, o + 1, none⟩ = some (.string sp) := by simpa using (hr 1 _ rfl).1
  have c2 : w.cell? ⟨b, o + 2, none⟩ = some (vf) := by simpa using (hr 2 _ rfl).1
  have c3 : w.cell? ⟨b, o + 3, none⟩ = some (vm) := by simpa using (hr 3 _ rfl).1
  have hfr : ∀ j, j < 4 → w.frozen? ⟨b, o + j, none⟩ = false := by
    intro j hj
    have hjl : j < (cellsN (.cl nm sp vf vm f m)).length := by rw [cells_len]; exact hj
    exact (hr j _ (List.getElem?_eq_getElem hjl)).2
  have HFR := Lib.hid hfr
  clear hk hs hkd hsm hr hfr
  go_enter Try.func24, Try.ntmps24
  go_wp2_with fail
  have hB0 : Below w.heap.size w w.drew := (Below.refl _ w).drew
  have gA : w.frozen? ⟨b, o, none⟩ = false := by simpa using HFR.out 0 (by omega)
  have gB : w.frozen? ⟨b, o + 1, none⟩ = false := HFR.out 1 (by omega)
  go_cut [] (fun wx => Still w wx b)
  case first =>
    go_region_with (first
      | (go_at_call_of 37 (Value.string nm); refine (HC.out nm _ h1).mono ?_; rintro e w2 ⟨rfl, hc1⟩; have hB1 := hB0.trans (hc1.mono hB0.size); have dB := (Keep.below hB1) _ _ c1; clear hc1)
      | (go_at_call_of 37 (Value.string sp); refine (HC.out sp _ h2).mono ?_; rintro e w3 ⟨rfl, hc2⟩; have hB2 := hB1.trans (hc2.mono hB1.size); have eA := (Keep.below hB2) _ _ c0; have eB := (Keep.below hB2) _ _ c1; have fA := (hB2.frozen (p := ⟨b, o, none⟩) hlt).trans gA; have fB := (hB2.frozen (p := ⟨b, o + 1, none⟩) hlt).trans gB; clear hc2))
    all_goals
      go_wp2_with fail
      go_meet
      exact still_two hB2 hlt c0 c1
  case rest =>
    have HST := Lib.hid hcut
    have d2 := (still_keep hcut) _ _ c2
    have d3 := (still_keep hcut) _ _ c3
    have g2 : wc.frozen? ⟨b, o + 2, none⟩ = false := (hcut.2.2 _).trans (HFR.out 2 (by omega))
    have g3 : wc.frozen? ⟨b, o + 3, none⟩ = false := (hcut.2.2 _).trans (HFR.out 3 (by omega))
    have hltc : b < wc.heap.size := Nat.lt_of_lt_of_le hlt hcut.1.size
    have HRF : Hid (∀ w', Below wc.heap.size wc w' → Calls Try.prog 39 #[vf] w' (RenewSaid w' 44 4 f.length (f.flatMap cellsN))) := fun w' hb => renewed_fd w' vf f ((HKK.out.2.1.1.keep (still_keep hcut)).keep (Keep.below hb)) (KdL.keep (Keep.below hb) _ (KdL.keep (still_keep hcut) _ HKK.out.2.1.2)) m1
    have HRM : Hid (∀ w', Below wc.heap.size wc w' → Calls Try.prog 40 #[vm] w' (RenewSaid w' 39 6 m.length (m.flatMap cellsN))) := fun w' hb => renewed_mt w' vm m ((HKK.out.2.2.1.keep (still_keep hcut)).keep (Keep.below hb)) (KdL.keep (Keep.below hb) _ (KdL.keep (still_keep hcut) _ HKK.out.2.2.2)) m2
    have hB0 : Below wc.heap.size wc wc.drew := (Below.refl _ wc).drew
    clear hcut c0 c1 c2 c3 gA gB
    go_wp2_with fail
    go_region_with (first
      | (go_at_call 39; refine (HRF.out _ hB0).mono ?_; rintro e w4 ⟨v4, rfl, ho4, hc1⟩; obtain ⟨Af, cf, rfl, _⟩ := own_form ho4; have hB1 := hB0.trans (hc1.mono hB0.size); have i3 := (Keep.below hB1) _ _ d3; have HO1 := Lib.hid ho4; have HL1 := Lib.hid ho4.lt; clear ho4 hc1)
      | (go_at_call 40; refine (HRM.out _ hB1).mono ?_; rintro e w5 ⟨v5, rfl, ho5, hc2⟩; obtain ⟨Am, cm, rfl, _⟩ := own_form ho5; have hB2 := hB1.trans (hc2.mono hB1.size); have e2 := (Keep.below hB2) _ _ d2; have e3 := (Keep.below hB2) _ _ d3; have f2 := (hB2.frozen (p := ⟨b, o + 2, none⟩) hltc).trans g2; have f3 := (hB2.frozen (p := ⟨b, o + 3, none⟩) hltc).trans g3; have HO2 := Lib.hid ho5; have HO1b := Lib.hid (own_next HO1.out hc2); clear ho5 hc2))
    all_goals
      have hwc := HST.out.1.size
      have HFIN : Hid (StripSaid w b o (.cl nm sp vf vm f m) (.returned (.tuple #[])) ((w5.setCell ⟨b, o + 2, none⟩ (.slice Af f.length cf)).setCell ⟨b, o + 3, none⟩ (.slice Am m.length cm))) := by
        have hs1 := hB1.size
        refine ⟨rfl, .cl nm sp (.slice Af f.length cf) (.slice Am m.length cm) f m, ok_cl (B1 := w4.heap.size) (seg_of (t := .fd) (own_mono (ownsRow_setCell_below (ownsRow_setCell_below HO1b.out hltc _) hltc _) hwc) (by obtain ⟨_, _, _, _, ht, _⟩ := HKK.out.2.1.1; exact ht)) (seg_of (t := .mt) (ownsRow_setCell_below (ownsRow_setCell_below HO2.out (show b < w4.heap.size by omega) _) (show b < w4.heap.size by omega) _) (by obtain ⟨_, _, _, _, ht, _⟩ := HKK.out.2.2.1; exact ht)) (by omega) (fun k hk => (HL1.out k hk).2) m1 m2 HKK.out.1,
          ((HST.out.1.trans (grown_below hB2)).trans (grown_set_at _ _ _ _)).trans (grown_set_at _ _ _ _), fun j u hu => ?_, fun j hj => ?_, fun j => ?_⟩
        · match j, hu with
          | 0, hu =>
            rw [World.cell?_setCell_other _ _ _ _ (by simp), World.cell?_setCell_other _ _ _ _ (by simp), hB2.cell (p := ⟨b, o + 0, none⟩) hltc, HST.out.2.1]
            exact (HR.out 0 u hu).1
          | 1, hu =>
            rw [World.cell?_setCell_other _ _ _ _ (by simp), World.cell?_setCell_other _ _ _ _ (by simp), hB2.cell (p := ⟨b, o + 1, none⟩) hltc, HST.out.2.1]
            exact (HR.out 1 u hu).1
          | 2, hu => simp [cellsN] at hu; subst hu; rw [World.cell?_setCell_other _ _ _ _ (by simp)]; exact set_at e2
          | 3, hu => simp [cellsN] at hu; subst hu; exact set_at (u := vm) (by rw [World.cell?_setCell_other _ _ _ _ (by simp)]; exact e3)
          | j + 4, hu => simp [cellsN] at hu
        · simp only [Nd.tag, Tg.sz] at hj
          rw [World.cell?_setCell_other _ _ _ _ (by simp <;> omega), World.cell?_setCell_other _ _ _ _ (by simp <;> omega), hB2.cell (p := ⟨b, j, none⟩) hltc, HST.out.2.1]
        · rw [World.frozen?_setCell, World.frozen?_setCell, hB2.frozen (p := ⟨b, j, none⟩) hltc, HST.out.2.2]
      clear d2 d3 g2 g3
      go_wp2_with fail
      refine bodyPost_end (v := .tuple #[]) (by simp [results, Try.results24, go_sem]) rfl ?_
      exact HFIN.out
end Go.Proofs.Ytlpddmncgmhkeaa
